/- Plain mathematics: marking a loop from one side or from the other marks the same points. -/
namespace Go.Proofs.YtopenojociafaaaDoor.LoopM
theorem cnt_le (mb : List Bool) (i : Nat) : (mb.set i true).count false ≤ mb.count false := by
  induction mb generalizing i with
  | nil => simp
  | cons b mb ih =>
    cases i with
    | zero => cases b <;> simp
    | succ i => have := ih i; cases b <;> simp_all
theorem cnt_lt (mb : List Bool) (i : Nat) (h : mb.getD i true = false) : (mb.set i true).count false + 1 = mb.count false := by
  induction mb generalizing i with
  | nil => simp at h
  | cons b mb ih =>
    cases i with
    | zero => simp at h; subst h; simp
    | succ i => have := ih i (by simpa using h); cases b <;> simp_all
/-- Whether a point is marked. -/
def On (mb : List Bool) (y : Int) : Prop := mb.getD y.toNat true = true
/-- Along a loop, first by u, then by v. -/
def mk (u v : Int → Int) : Nat → Int → List Bool → List Bool
  | 0, _, mb => mb
  | f + 1, p, mb => if mb.getD p.toNat true then mb else mk u v f (v (u p)) ((mb.set p.toNat true).set (u p).toNat true)
theorem mk_len (u v : Int → Int) (f : Nat) (p : Int) (mb : List Bool) : (mk u v f p mb).length = mb.length := by
  induction f generalizing p mb with
  | zero => rfl
  | succ f ih => unfold mk; split <;> simp [ih]
theorem on_set (mb : List Bool) (i y : Int) (hi : 0 ≤ i) (hl : i < mb.length) (hy : 0 ≤ y) : On (mb.set i.toNat true) y ↔ On mb y ∨ y = i := by
  unfold On
  rw [List.getD_eq_getElem?_getD, List.getD_eq_getElem?_getD, List.getElem?_set]
  by_cases e : i.toNat = y.toNat
  · rw [if_pos e, if_pos (by omega)]
    have : y = i := by omega
    simp [this]
  · rw [if_neg e]
    have : y ≠ i := by omega
    simp [this]
/-- The points that are reached from p by u and v. -/
inductive Rch (u v : Int → Int) (p : Int) : Int → Prop
  | refl : Rch u v p p
  | u {y : Int} : Rch u v p y → Rch u v p (u y)
  | v {y : Int} : Rch u v p y → Rch u v p (v y)
theorem Rch.swap {u v : Int → Int} {p y : Int} (h : Rch u v p y) : Rch v u p y := by
  induction h with
  | refl => exact .refl
  | u _ ih => exact .v ih
  | v _ ih => exact .u ih
/-- u is a mating, without fixed points, of the points below n that are not marked. -/
structure Free (n : Int) (mb : List Bool) (u : Int → Int) : Prop where
  bd : ∀ y, 0 ≤ y → y < n → ¬ On mb y → 0 ≤ u y ∧ u y < n
  off : ∀ y, 0 ≤ y → y < n → ¬ On mb y → ¬ On mb (u y)
  inv : ∀ y, 0 ≤ y → y < n → ¬ On mb y → u (u y) = y
  ne : ∀ y, 0 ≤ y → y < n → ¬ On mb y → u y ≠ y
theorem rch_bd {n : Int} {M : List Bool} {u v : Int → Int} (hu : Free n M u) (hv : Free n M v) {p y : Int} (h0 : 0 ≤ p) (h2 : p < n) (hp : ¬ On M p) (h : Rch u v p y) : 0 ≤ y ∧ y < n ∧ ¬ On M y := by
  induction h with
  | refl => exact ⟨h0, h2, hp⟩
  | u _ ih => exact ⟨(hu.bd _ ih.1 ih.2.1 ih.2.2).1, (hu.bd _ ih.1 ih.2.1 ih.2.2).2, hu.off _ ih.1 ih.2.1 ih.2.2⟩
  | v _ ih => exact ⟨(hv.bd _ ih.1 ih.2.1 ih.2.2).1, (hv.bd _ ih.1 ih.2.1 ih.2.2).2, hv.off _ ih.1 ih.2.1 ih.2.2⟩
/-- On the way round a loop that began at q, at the point p. -/
structure Way (n : Int) (M : List Bool) (u v : Int → Int) (q : Int) (S : List Bool) (p : Int) : Prop where
  len : S.length = M.length
  sub : ∀ y, 0 ≤ y → y < n → On M y → On S y
  inn : ∀ y, 0 ≤ y → y < n → On S y → On M y ∨ Rch u v q y
  rch : Rch u v q p
  cu : ∀ y, 0 ≤ y → y < n → ¬ On M y → On S y → On S (u y)
  cv : ∀ y, 0 ≤ y → y < n → On S y → On M y ∨ On S (v y) ∨ v y = p ∨ y = q
  five : On S p → p = q
  six : (S = M ∧ p = q) ∨ On S (v p)
theorem way_step {n : Int} {M : List Bool} {u v : Int → Int} (hn : n ≤ M.length) (hu : Free n M u) (hv : Free n M v) {q : Int} (q0 : 0 ≤ q) (q2 : q < n) (hq : ¬ On M q) {S : List Bool} {p : Int} (h : Way n M u v q S p) (hp : ¬ On S p) : Way n M u v q ((S.set p.toNat true).set (u p).toNat true) (v (u p)) := by
  obtain ⟨b0, b2, bm⟩ := rch_bd hu hv q0 q2 hq h.rch
  have c := hu.bd p b0 b2 bm
  have cm := hu.off p b0 b2 bm
  have ci := hu.inv p b0 b2 bm
  have cn := hu.ne p b0 b2 bm
  have e := hv.bd _ c.1 c.2 cm
  have em := hv.off _ c.1 c.2 cm
  have ei := hv.inv _ c.1 c.2 cm
  have en := hv.ne _ c.1 c.2 cm
  have hl := h.len
  have key : ∀ y, 0 ≤ y → (On ((S.set p.toNat true).set (u p).toNat true) y ↔ On S y ∨ y = p ∨ y = u p) := by
    intro y y0
    rw [on_set _ _ _ c.1 (by simp; omega) y0, on_set _ _ _ b0 (by omega) y0, or_assoc]
  have hup : ¬ On S (u p) := fun x => hp (by have := h.cu _ c.1 c.2 cm x; rwa [ci] at this)
  refine ⟨by simp [hl], ?_, ?_, .v (.u h.rch), ?_, ?_, ?_, .inr ?_⟩
  · intro y y0 y2 hy
    exact (key y y0).2 (.inl (h.sub y y0 y2 hy))
  · intro y y0 y2 hy
    rcases (key y y0).1 hy with hy | rfl | rfl
    · exact h.inn y y0 y2 hy
    · exact .inr h.rch
    · exact .inr (.u h.rch)
  · intro y y0 y2 hm hy
    have yb := hu.bd y y0 y2 hm
    rcases (key y y0).1 hy with hy | rfl | rfl
    · exact (key _ yb.1).2 (.inl (h.cu y y0 y2 hm hy))
    · exact (key _ yb.1).2 (.inr (.inr rfl))
    · rw [ci]; exact (key _ b0).2 (.inr (.inl rfl))
  · intro y y0 y2 hy
    by_cases hm : On M y
    · exact .inl hm
    · have yb := hv.bd y y0 y2 hm
      rcases (key y y0).1 hy with hy | rfl | rfl
      · rcases h.cv y y0 y2 hy with x | x | x | x
        · exact .inl x
        · exact .inr (.inl ((key _ yb.1).2 (.inl x)))
        · exact .inr (.inl ((key _ yb.1).2 (.inr (.inl x))))
        · exact .inr (.inr (.inr x))
      · rcases h.six with ⟨_, x⟩ | x
        · exact .inr (.inr (.inr x))
        · exact .inr (.inl ((key _ yb.1).2 (.inl x)))
      · exact .inr (.inr (.inl rfl))
  · intro hy
    rcases (key _ e.1).1 hy with hy | hy | hy
    · rcases h.cv _ e.1 e.2 hy with x | x | x | x
      · exact absurd x em
      · rw [ei] at x; exact absurd x hup
      · rw [ei] at x; exact absurd x cn
      · exact x
    · rcases h.six with ⟨_, x⟩ | x
      · rw [hy, x]
      · rw [← hy, ei] at x; exact absurd x hup
    · exact absurd hy en
  · rw [ei]; exact (key _ c.1).2 (.inr (.inr rfl))
theorem way_end {n : Int} {M : List Bool} {u v : Int → Int} (hu : Free n M u) (hv : Free n M v) {q : Int} (q0 : 0 ≤ q) (q2 : q < n) (hq : ¬ On M q) {S : List Bool} {p : Int} (h : Way n M u v q S p) (hp : On S p) :
    ∀ y, 0 ≤ y → y < n → (On S y ↔ On M y ∨ Rch u v q y) := by
  have e := h.five hp
  subst e
  have hvp : On S (v p) := by
    rcases h.six with ⟨x, _⟩ | x
    · rw [x] at hp; exact absurd hp hq
    · exact x
  intro y y0 y2
  refine ⟨h.inn y y0 y2, fun x => ?_⟩
  rcases x with x | x
  · exact h.sub y y0 y2 x
  · clear y0 y2
    induction x with
    | refl => exact hp
    | u r ih =>
      have := rch_bd hu hv q0 q2 hq r
      exact h.cu _ this.1 this.2.1 this.2.2 ih
    | v r ih =>
      have b := rch_bd hu hv q0 q2 hq r
      rcases h.cv _ b.1 b.2.1 ih with x | x | x | x
      · exact absurd x b.2.2
      · exact x
      · rw [x]; exact hp
      · rw [x]; exact hvp
theorem mk_way {n : Int} {M : List Bool} {u v : Int → Int} (hn : n ≤ M.length) (hu : Free n M u) (hv : Free n M v) {q : Int} (q0 : 0 ≤ q) (q2 : q < n) (hq : ¬ On M q) (f : Nat) : ∀ (S : List Bool) (p : Int), Way n M u v q S p → S.count false ≤ f →
    ∀ y, 0 ≤ y → y < n → (On (mk u v f p S) y ↔ On M y ∨ Rch u v q y) := by
  induction f with
  | zero =>
    intro S p h hc
    refine way_end hu hv q0 q2 hq h ?_
    unfold On
    cases hx : S.getD p.toNat true with
    | true => exact hx
    | false => have := cnt_lt S _ hx; omega
  | succ f ih =>
    intro S p h hc
    unfold mk
    cases hx : S.getD p.toNat true with
    | true => exact way_end hu hv q0 q2 hq h hx
    | false =>
      have x1 := cnt_lt S _ hx
      have x2 := cnt_le (S.set p.toNat true) (u p).toNat
      exact ih _ _ (way_step hn hu hv q0 q2 hq h (by unfold On; rw [hx]; simp)) (by omega)
theorem mk_on {n : Int} {M : List Bool} {u v : Int → Int} (hn : n ≤ M.length) (hu : Free n M u) (hv : Free n M v) {q : Int} (q0 : 0 ≤ q) (q2 : q < n) (hq : ¬ On M q) (f : Nat) (hf : M.count false ≤ f) :
    ∀ y, 0 ≤ y → y < n → (On (mk u v f q M) y ↔ On M y ∨ Rch u v q y) :=
  mk_way hn hu hv q0 q2 hq f M q ⟨rfl, fun _ _ _ x => x, fun _ _ _ x => .inl x, .refl, fun _ _ _ x y => absurd y x, fun _ _ _ x => .inl x, fun x => absurd x hq, .inl ⟨rfl, rfl⟩⟩ hf
theorem mk_out {n : Int} {M : List Bool} {u v : Int → Int} (hn : n ≤ M.length) (hu : Free n M u) (hv : Free n M v) {q : Int} (q0 : 0 ≤ q) (q2 : q < n) (hq : ¬ On M q) (f : Nat) : ∀ (S : List Bool) (p : Int), Way n M u v q S p → ∀ j : Nat, n ≤ j → (mk u v f p S).getD j true = S.getD j true := by
  induction f with
  | zero => intro S p _ j _; rfl
  | succ f ih =>
    intro S p h j hj
    unfold mk
    cases hx : S.getD p.toNat true with
    | true => rfl
    | false =>
      obtain ⟨b0, b2, bm⟩ := rch_bd hu hv q0 q2 hq h.rch
      have c := hu.bd p b0 b2 bm
      rw [if_neg (by simp), ih _ _ (way_step hn hu hv q0 q2 hq h (by unfold On; rw [hx]; simp)) j hj]
      rw [List.getD_eq_getElem?_getD, List.getD_eq_getElem?_getD, List.getElem?_set_ne (by omega), List.getElem?_set_ne (by omega)]
theorem free_mk {n : Int} {M : List Bool} {u v t : Int → Int} (hn : n ≤ M.length) (hu : Free n M u) (hv : Free n M v) (ht : Free n M t) {q : Int} (q0 : 0 ≤ q) (q2 : q < n) (hq : ¬ On M q) (f : Nat) (hf : M.count false ≤ f) (htr : ∀ y, Rch u v q y → Rch u v q (t y)) : Free n (mk u v f q M) t := by
  have key := mk_on hn hu hv q0 q2 hq f hf
  have nm : ∀ y, 0 ≤ y → y < n → ¬ On (mk u v f q M) y → ¬ On M y := fun y y0 y2 h x => h ((key y y0 y2).2 (.inl x))
  refine ⟨fun y y0 y2 h => ht.bd y y0 y2 (nm y y0 y2 h), fun y y0 y2 h x => ?_, fun y y0 y2 h => ht.inv y y0 y2 (nm y y0 y2 h), fun y y0 y2 h => ht.ne y y0 y2 (nm y y0 y2 h)⟩
  have b := ht.bd y y0 y2 (nm y y0 y2 h)
  rcases (key _ b.1 b.2).1 x with x | x
  · exact ht.off y y0 y2 (nm y y0 y2 h) x
  · have := htr _ x
    rw [ht.inv y y0 y2 (nm y y0 y2 h)] at this
    exact h ((key y y0 y2).2 (.inr this))
/-- What has been marked, and how many loops, behind k points. -/
def lps (u v : Int → Int) (M : List Bool) : Nat → List Bool × Int
  | 0 => (M, 0)
  | k + 1 => if (lps u v M k).1.getD k true then lps u v M k else (mk u v 8 k (lps u v M k).1, (lps u v M k).2 + 1)
theorem lps_len (u v : Int → Int) (M : List Bool) (k : Nat) : (lps u v M k).1.length = M.length := by
  induction k with
  | zero => rfl
  | succ k ih => unfold lps; split <;> simp [mk_len, ih]
theorem lps_bd (u v : Int → Int) (M : List Bool) (k : Nat) : 0 ≤ (lps u v M k).2 ∧ (lps u v M k).2 ≤ k := by
  induction k with
  | zero => simp [lps]
  | succ k ih => unfold lps; split <;> simp <;> omega
theorem bl_ext {n : Int} {A B : List Bool} (hl : A.length = B.length) (h1 : ∀ y, 0 ≤ y → y < n → (On A y ↔ On B y)) (h2 : ∀ j : Nat, n ≤ j → A.getD j true = B.getD j true) : A = B := by
  apply List.ext_getElem hl
  intro j a b
  have g1 : A.getD j true = A[j] := by rw [List.getD_eq_getElem?_getD, List.getElem?_eq_getElem a]; rfl
  have g2 : B.getD j true = B[j] := by rw [List.getD_eq_getElem?_getD, List.getElem?_eq_getElem b]; rfl
  rw [← g1, ← g2]
  by_cases hj : n ≤ j
  · exact h2 j hj
  · have := h1 j (by omega) (by omega)
    unfold On at this
    rw [show ((j : Int)).toNat = j by omega] at this
    cases hx : A.getD j true <;> cases hy : B.getD j true <;> simp_all
theorem lps_swap {n : Int} {M : List Bool} {u v : Int → Int} (h8 : M.length = 8) (hn : n ≤ 8) (hu : Free n M u) (hv : Free n M v) (k : Nat) (hk : (k : Int) ≤ n) :
    lps u v M k = lps v u M k ∧ Free n (lps u v M k).1 u ∧ Free n (lps u v M k).1 v := by
  induction k with
  | zero => exact ⟨rfl, hu, hv⟩
  | succ k ih =>
    obtain ⟨e, fu, fv⟩ := ih (by omega)
    have ll : (lps u v M k).1.length = 8 := by rw [lps_len, h8]
    have hc : (lps u v M k).1.count false ≤ 8 := by rw [← ll]; exact List.count_le_length
    cases hx : (lps u v M k).1.getD k true with
    | true =>
      have e1 : lps u v M (k + 1) = lps u v M k := by rw [lps, if_pos hx]
      have e2 : lps v u M (k + 1) = lps v u M k := by rw [lps, if_pos (by rw [← e]; exact hx)]
      rw [e1, e2]; exact ⟨e, fu, fv⟩
    | false =>
      have e1 : lps u v M (k + 1) = (mk u v 8 k (lps u v M k).1, (lps u v M k).2 + 1) := by rw [lps, if_neg (by rw [hx]; simp)]
      have e2 : lps v u M (k + 1) = (mk v u 8 k (lps u v M k).1, (lps u v M k).2 + 1) := by rw [lps, if_neg (by rw [← e, hx]; simp), ← e]
      have hq : ¬ On (lps u v M k).1 k := by unfold On; rw [show ((k : Int)).toNat = k by omega, hx]; simp
      have A1 := mk_on (by omega) fu fv (by omega) (by omega) hq 8 hc
      have A2 := mk_on (by omega) fv fu (by omega) (by omega) hq 8 hc
      refine ⟨?_, ?_, ?_⟩
      · rw [e1, e2]
        have : mk u v 8 k (lps u v M k).1 = mk v u 8 k (lps u v M k).1 := by
          refine bl_ext (n := n) (by rw [mk_len, mk_len]) (fun y y0 y2 => ?_) (fun j hj => ?_)
          · rw [A1 y y0 y2, A2 y y0 y2]
            exact ⟨fun x => x.imp_right Rch.swap, fun x => x.imp_right Rch.swap⟩
          · rw [mk_out (by omega) fu fv (by omega) (by omega) hq 8 _ _ ⟨rfl, fun _ _ _ x => x, fun _ _ _ x => .inl x, .refl, fun _ _ _ x y => absurd y x, fun _ _ _ x => .inl x, fun x => absurd x hq, .inl ⟨rfl, rfl⟩⟩ j hj, mk_out (by omega) fv fu (by omega) (by omega) hq 8 _ _ ⟨rfl, fun _ _ _ x => x, fun _ _ _ x => .inl x, .refl, fun _ _ _ x y => absurd y x, fun _ _ _ x => .inl x, fun x => absurd x hq, .inl ⟨rfl, rfl⟩⟩ j hj]
        rw [this]
      · rw [e1]; exact free_mk (by omega) fu fv fu (by omega) (by omega) hq 8 hc fun _ x => .u x
      · rw [e1]; exact free_mk (by omega) fu fv fv (by omega) (by omega) hq 8 hc fun _ x => .v x
end Go.Proofs.YtopenojociafaaaDoor.LoopM
