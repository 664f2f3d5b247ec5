/- Small facts of mates; what a call leaves as it was. Plain mathematics of products: lines come to an end, what is not met by them falls into loops, and a loop is the same from both sides. Plain mathematics: marking a loop from one side or from the other marks the same points. Plain mathematics of products: what the lines from outer points meet, the ends of all lines, and the number of loops. Plain mathematics: the product of two diagrams is a diagram. -/
import Derived.Test.YtbibmncepjmgcaaKb
namespace Go.Proofs.Ytbibmncepjmgcaa
open Go.RowKit
theorem mate_lt {n : Int} {ms : List Int} (hb : Bytes ms) (hd : IsS n ms) (p : Int) (h0 : 0 ≤ p) (h2 : p < 2 * n) : 0 ≤ mate ms p ∧ mate ms p < 2 * n := by
  have hN := Net.of hb hd
  have b := pl_lt n p h0 h2
  have m := hN.mt (pl n p) b.1 b.2
  rw [pl_pl n p h0 h2] at m
  have q := hN.lt (pl n p) b.1 b.2
  rw [m]; exact pl_lt n _ q.1 q.2.1
/-- Of what was there, only block g may have turned. -/
structure Most (g : Nat) (w w' : World) : Prop where
  os : w'.os = w.os
  tape : w'.tape = w.tape
  output : w'.output = w.output
  size : w.heap.size ≤ w'.heap.size
  block : ∀ k, k < w.heap.size → k ≠ g → w'.heap[k]? = w.heap[k]?
theorem Most.refl (g : Nat) (w : World) : Most g w w := ⟨rfl, rfl, rfl, Nat.le_refl _, fun _ _ _ => rfl⟩
theorem Most.trans {g : Nat} {u v w : World} (h : Most g u v) (k : Most g v w) : Most g u w :=
  ⟨k.os.trans h.os, k.tape.trans h.tape, k.output.trans h.output, Nat.le_trans h.size k.size, fun i hi hg => (k.block i (Nat.lt_of_lt_of_le hi h.size) hg).trans (h.block i hi hg)⟩
theorem Only.most {g : Nat} {w w' : World} (h : Only g w w') : Most g w w' := ⟨h.below.os, h.below.tape, h.below.output, Nat.le_of_eq h.size.symm, fun k _ hg => h.other k hg⟩
theorem most_of_below {g : Nat} {w w' : World} (h : Below w.heap.size w w') : Most g w w' := ⟨h.os, h.tape, h.output, h.size, fun k hk _ => h.block k hk⟩
theorem Own.most {w w' : World} {b g : Nat} {cs : Array Value} {t : TypeId} (h : Own w b cs t) (hm : Most g w w') (hb : b ≠ g) : Own w' b cs t := by
  show w'.heap[b]? = _
  rw [hm.block b h.lt hb]; exact h
theorem Most.below {g B : Nat} {w w' : World} (h : Most g w w') (hB : B ≤ w.heap.size) (hg : B ≤ g) : Below B w w' :=
  ⟨h.os, h.tape, h.output, h.size, fun k hk => h.block k (by omega) (by omega)⟩
theorem set_get (l : List Int) (hl : l.length = 16) (j : Nat) (hj : j < 16) (v : Int) (i : Nat) : (l.set j v).getD i 0 = if i = j then v else l.getD i 0 := by
  rw [List.getD_eq_getElem?_getD, List.getD_eq_getElem?_getD, List.getElem?_set]
  by_cases e : j = i
  · subst e; simp [hl, hj]
  · rw [if_neg e, if_neg (fun h => e h.symm)]
theorem zeros_get (j : Nat) : zeros.getD j 0 = 0 := by
  unfold zeros
  rw [List.getD_eq_getElem?_getD, List.getElem?_replicate]
  split <;> rfl
theorem mate_inv {n : Int} {ms : List Int} (hd : IsS n ms) (p : Int) (h0 : 0 ≤ p) (h2 : p < 2 * n) : mate ms (mate ms p) = p := by
  have hn := hd.1
  have h := hd.2.1 p.toNat (by omega)
  rw [show ((p.toNat : Nat) : Int) = p by omega] at h
  unfold OkAt at h
  rw [if_neg (by omega)] at h
  exact h.2.2
end Go.Proofs.Ytbibmncepjmgcaa
namespace Go.Proofs.Ytbibmncepjmgcaa
theorem cntle (mb : List Bool) (i : Nat) : (mb.set i true).count false ≤ mb.count false := by
  induction mb generalizing i with
  | nil => simp
  | cons b mb ih =>
    cases i with
    | zero => cases b <;> simp
    | succ i => have := ih i; cases b <;> simp_all
theorem cntlt (mb : List Bool) (i : Nat) (h : mb.getD i true = false) : (mb.set i true).count false + 1 = mb.count false := by
  induction mb generalizing i with
  | nil => simp at h
  | cons b mb ih =>
    cases i with
    | zero => simp at h; subst h; simp
    | succ i => have := ih i (by simpa using h); cases b <;> simp_all
theorem bset_get (mb : List Bool) (j : Nat) (hj : j < mb.length) (i : Nat) : (mb.set j true).getD i true = if i = j then true else mb.getD i true := by
  rw [List.getD_eq_getElem?_getD, List.getD_eq_getElem?_getD, List.getElem?_set]
  by_cases e : j = i
  · subst e; simp [hj]
  · rw [if_neg e, if_neg (fun h => e h.symm)]
/-- A mating of the points 0 to 2 n - 1. -/
structure Mt (n : Int) (d : Int → Int) : Prop where
  lt : ∀ p, 0 ≤ p → p < 2 * n → 0 ≤ d p ∧ d p < 2 * n
  inv : ∀ p, 0 ≤ p → p < 2 * n → d (d p) = p
  ne : ∀ p, 0 ≤ p → p < 2 * n → d p ≠ p
theorem mt_of {n : Int} {ms : List Int} (hb : Bytes ms) (hd : IsS n ms) : Mt n (mate ms) where
  lt := fun p h0 h2 => mate_lt hb hd p h0 h2
  inv := fun p h0 h2 => mate_inv hd p h0 h2
  ne := fun p h0 h2 => by
    have hn := hd.1
    have h := hd.2.1 p.toNat (by omega)
    rw [show ((p.toNat : Nat) : Int) = p by omega] at h
    unfold OkAt at h
    rw [if_neg (by omega)] at h
    exact h.2.1
section
variable {n : Int} {d e : Int → Int}
/-- Along a line of the product, from a point on: to its end, and which middle points are met. -/
def fol (n : Int) (d e : Int → Int) : Nat → Bool → Int → Option (Int × List Int)
  | 0, _, _ => none
  | k + 1, true, i => if d i < n then some (d i, []) else (fol n d e k false (d i - n)).map fun r => (r.1, (d i - n) :: r.2)
  | k + 1, false, i => if n ≤ e i then some (e i, []) else (fol n d e k true (n + e i)).map fun r => (r.1, e i :: r.2)
theorem fol_mono (k : Nat) : ∀ (up : Bool) (i : Int) (r : Int × List Int), fol n d e k up i = some r → fol n d e (k + 1) up i = some r := by
  induction k with
  | zero => intro up i r h; simp [fol] at h
  | succ k ih =>
    intro up i r h
    cases up with
    | true =>
      unfold fol at h ⊢
      split at h
      · rename_i hc; rw [if_pos hc]; exact h
      · rename_i hc
        rw [if_neg hc]
        cases hf : fol n d e k false (d i - n) with
        | none => rw [hf] at h; simp at h
        | some q => rw [ih _ _ _ hf]; rw [hf] at h; exact h
    | false =>
      unfold fol at h ⊢
      split at h
      · rename_i hc; rw [if_pos hc]; exact h
      · rename_i hc
        rw [if_neg hc]
        cases hf : fol n d e k true (n + e i) with
        | none => rw [hf] at h; simp at h
        | some q => rw [ih _ _ _ hf]; rw [hf] at h; exact h
theorem fol_le {k k' : Nat} (h : k ≤ k') {up : Bool} {i : Int} {r : Int × List Int} (hf : fol n d e k up i = some r) : fol n d e k' up i = some r := by
  induction h with
  | refl => exact hf
  | step _ ih => exact fol_mono _ _ _ _ ih
theorem fol_bd (hd : Mt n d) (he : Mt n e) (k : Nat) : ∀ (up : Bool) (i : Int) (E : Int) (L : List Int), 0 ≤ i → i < 2 * n → fol n d e k up i = some (E, L) → (0 ≤ E ∧ E < 2 * n) ∧ ∀ x ∈ L, 0 ≤ x ∧ x < n := by
  induction k with
  | zero => intro up i E L _ _ h; simp [fol] at h
  | succ k ih =>
    intro up i E L h0 h2 h
    cases up with
    | true =>
      have b := hd.lt i h0 h2
      unfold fol at h
      split at h
      · simp at h; obtain ⟨rfl, rfl⟩ := h; exact ⟨b, by simp⟩
      · cases hf : fol n d e k false (d i - n) with
        | none => rw [hf] at h; simp at h
        | some q =>
          rw [hf] at h; simp at h; obtain ⟨rfl, rfl⟩ := h
          have := ih false (d i - n) q.1 q.2 (by omega) (by omega) hf
          refine ⟨this.1, fun x hx => ?_⟩
          rcases List.mem_cons.1 hx with rfl | hx
          · omega
          · exact this.2 x hx
    | false =>
      have b := he.lt i h0 h2
      unfold fol at h
      split at h
      · simp at h; obtain ⟨rfl, rfl⟩ := h; exact ⟨b, by simp⟩
      · cases hf : fol n d e k true (n + e i) with
        | none => rw [hf] at h; simp at h
        | some q =>
          rw [hf] at h; simp at h; obtain ⟨rfl, rfl⟩ := h
          have := ih true (n + e i) q.1 q.2 (by omega) (by omega) hf
          refine ⟨this.1, fun x hx => ?_⟩
          rcases List.mem_cons.1 hx with rfl | hx
          · omega
          · exact this.2 x hx
/-- From a middle point on: whether the line goes on to another middle point, and to which. -/
def stays (n : Int) (d e : Int → Int) (p : Int) : Prop := if n ≤ p then n ≤ d p else e p < n
def gnext (n : Int) (d e : Int → Int) (p : Int) : Int := if n ≤ p then d p - n else n + e p
theorem gnext_bd (hd : Mt n d) (he : Mt n e) (p : Int) (h0 : 0 ≤ p) (h2 : p < 2 * n) (hs : stays n d e p) : 0 ≤ gnext n d e p ∧ gnext n d e p < 2 * n ∧ (gnext n d e p < n ↔ n ≤ p) := by
  have b1 := hd.lt p h0 h2
  have b2 := he.lt p h0 h2
  unfold stays at hs
  unfold gnext
  split at hs <;> rename_i hc
  · rw [if_pos hc]; omega
  · rw [if_neg hc]; omega
theorem gnext_inj (hd : Mt n d) (he : Mt n e) (p q : Int) (hp0 : 0 ≤ p) (hp2 : p < 2 * n) (hq0 : 0 ≤ q) (hq2 : q < 2 * n) (hp : stays n d e p) (hq : stays n d e q) (h : gnext n d e p = gnext n d e q) : p = q := by
  have bp := gnext_bd hd he p hp0 hp2 hp
  have bq := gnext_bd hd he q hq0 hq2 hq
  by_cases c : n ≤ p
  · have c' : n ≤ q := by rw [h] at bp; exact bq.2.2.1 (bp.2.2.2 c)
    unfold gnext at h
    rw [if_pos c, if_pos c'] at h
    rw [← hd.inv p hp0 hp2, show d p = d q by omega, hd.inv q hq0 hq2]
  · have c' : ¬ n ≤ q := fun x => c (by rw [← h] at bq; exact bp.2.2.1 (bq.2.2.2 x))
    unfold gnext at h
    rw [if_neg c, if_neg c'] at h
    rw [← he.inv p hp0 hp2, show e p = e q by omega, he.inv q hq0 hq2]
theorem fol_stays (k : Nat) (p : Int) (hs : stays n d e p) (x : n ≤ gnext n d e p ↔ ¬ n ≤ p) : fol n d e (k + 1) (decide (n ≤ p)) p = (fol n d e k (decide (n ≤ gnext n d e p)) (gnext n d e p)).map fun r => (r.1, (if n ≤ p then d p - n else e p) :: r.2) := by
  unfold stays at hs
  by_cases c : n ≤ p
  · rw [if_pos c] at hs
    have hg : gnext n d e p = d p - n := by unfold gnext; rw [if_pos c]
    rw [show decide (n ≤ gnext n d e p) = false by simp [x, c], show decide (n ≤ p) = true by simp [c], hg]
    rw [fol, if_neg (by omega), if_pos c]
  · rw [if_neg c] at hs
    have hg : gnext n d e p = n + e p := by unfold gnext; rw [if_neg c]
    rw [show decide (n ≤ gnext n d e p) = true by simp [x, c], show decide (n ≤ p) = false by simp [c], hg]
    rw [fol, if_neg (by omega), if_neg c]
theorem fol_mid (hd : Mt n d) (he : Mt n e) (h8 : n ≤ 8) (s : Int) (hs : ∀ u, 0 ≤ u → u < 2 * n → stays n d e u → gnext n d e u ≠ s) (c : Nat) : ∀ (vis : List Bool) (p : Int), vis.length = 16 → vis.count false ≤ c → 0 ≤ p → p < 2 * n → vis.getD p.toNat true = false →
    (∀ q, 0 ≤ q → q < 2 * n → (vis.getD q.toNat true = true ∨ q = p) → q ≠ s → ∃ u, 0 ≤ u ∧ u < 2 * n ∧ vis.getD u.toNat true = true ∧ stays n d e u ∧ gnext n d e u = q) →
    ∃ r, fol n d e c (decide (n ≤ p)) p = some r := by
  induction c with
  | zero =>
    intro vis p hl hc h0 h2 hv _
    have := cntlt vis p.toNat hv
    omega
  | succ c ih =>
    intro vis p hl hc h0 h2 hv hpre
    by_cases st : stays n d e p
    · have gb := gnext_bd hd he p h0 h2 st
      have hnew : vis.getD (gnext n d e p).toNat true = false ∧ gnext n d e p ≠ p := by
        rw [← Bool.not_eq_true]
        refine ⟨fun hx => ?_, fun hx => ?_⟩
        · obtain ⟨u, u0, u2, uv, us, ug⟩ := hpre _ gb.1 gb.2.1 (.inl hx) (hs p h0 h2 st)
          rw [gnext_inj hd he u p u0 u2 h0 h2 us st ug, hv] at uv
          cases uv
        · rw [hx] at gb; omega
      obtain ⟨r, hr⟩ := ih (vis.set p.toNat true) (gnext n d e p) (by simp [hl]) (by have := cntlt vis p.toNat hv; omega) gb.1 gb.2.1
        (by rw [bset_get _ _ (by omega), if_neg (by omega)]; exact hnew.1) (by
          intro q q0 q2 hq qs
          by_cases e1 : q = gnext n d e p
          · exact ⟨p, h0, h2, by rw [bset_get _ _ (by omega), if_pos rfl], st, e1.symm⟩
          · have : vis.getD q.toNat true = true ∨ q = p := by
              rcases hq with hq | hq
              · rw [bset_get _ _ (by omega)] at hq
                split at hq
                · right; omega
                · exact .inl hq
              · exact absurd hq e1
            obtain ⟨u, u0, u2, uv, us, ug⟩ := hpre q q0 q2 this qs
            exact ⟨u, u0, u2, by rw [bset_get _ _ (by omega)]; split <;> simp_all, us, ug⟩)
      exact ⟨_, by rw [fol_stays c p st (by omega), hr]; rfl⟩
    · unfold stays at st
      by_cases c1 : n ≤ p
      · rw [if_pos c1] at st
        exact ⟨(d p, []), by rw [show decide (n ≤ p) = true by simp [c1], fol, if_pos (by omega)]⟩
      · rw [if_neg c1] at st
        exact ⟨(e p, []), by rw [show decide (n ≤ p) = false by simp [c1], fol, if_pos (by omega)]⟩
/-- Where lines begin. -/
def Outer (n : Int) (up : Bool) (i : Int) : Prop := if up = true then 0 ≤ i ∧ i < n else n ≤ i ∧ i < 2 * n
theorem fol_outer (hd : Mt n d) (he : Mt n e) (h1 : 1 ≤ n) (h8 : n ≤ 8) (up : Bool) (i : Int) (ho : Outer n up i) : ∃ r, fol n d e 17 up i = some r := by
  have hvis : ∀ q : Int, 0 ≤ q → q < 2 * n → (List.replicate 16 false).getD q.toNat true = false := by
    intro q q0 q2
    rw [List.getD_eq_getElem?_getD, List.getElem?_replicate, if_pos (by omega)]
    rfl
  cases up with
  | true =>
    have ho : 0 ≤ i ∧ i < n := ho
    have b := hd.lt i ho.1 (by omega)
    by_cases c : d i < n
    · exact ⟨(d i, []), by rw [fol, if_pos c]⟩
    · obtain ⟨r, hr⟩ := fol_mid hd he h8 (d i - n) (fun u u0 u2 us ug => by
          have gb := gnext_bd hd he u u0 u2 us
          have cu : n ≤ u := gb.2.2.1 (by omega)
          unfold gnext at ug
          rw [if_pos cu] at ug
          have := hd.inv u u0 u2
          rw [show d u = d i by omega, hd.inv i ho.1 (by omega)] at this
          omega) 16 (List.replicate 16 false) (d i - n) (by simp) (by simp) (by omega) (by omega) (hvis _ (by omega) (by omega)) (by
          intro q q0 q2 hq qs
          rcases hq with hq | hq
          · rw [hvis q q0 q2] at hq; cases hq
          · exact absurd hq qs)
      rw [show decide (n ≤ d i - n) = false by simp; omega] at hr
      exact ⟨_, by rw [fol, if_neg c, hr]; rfl⟩
  | false =>
    have ho : n ≤ i ∧ i < 2 * n := ho
    have b := he.lt i (by omega) ho.2
    by_cases c : n ≤ e i
    · exact ⟨(e i, []), by rw [fol, if_pos c]⟩
    · obtain ⟨r, hr⟩ := fol_mid hd he h8 (n + e i) (fun u u0 u2 us ug => by
          have gb := gnext_bd hd he u u0 u2 us
          have cu : ¬ n ≤ u := fun x => by have := gb.2.2.2 x; omega
          unfold gnext at ug
          rw [if_neg cu] at ug
          have := he.inv u u0 u2
          rw [show e u = e i by omega, he.inv i (by omega) ho.2] at this
          omega) 16 (List.replicate 16 false) (n + e i) (by simp) (by simp) (by omega) (by omega) (hvis _ (by omega) (by omega)) (by
          intro q q0 q2 hq qs
          rcases hq with hq | hq
          · rw [hvis q q0 q2] at hq; cases hq
          · exact absurd hq qs)
      rw [show decide (n ≤ n + e i) = true by simp; omega] at hr
      exact ⟨_, by rw [fol, if_neg c, hr]; rfl⟩
/-- The end and the middle points of the line from an outer point. -/
def folR (n : Int) (d e : Int → Int) (up : Bool) (i : Int) : Int × List Int := (fol n d e 17 up i).getD (0, [])
theorem folR_eq (hd : Mt n d) (he : Mt n e) (h1 : 1 ≤ n) (h8 : n ≤ 8) (up : Bool) (i : Int) (ho : Outer n up i) : fol n d e 17 up i = some ((folR n d e up i).1, (folR n d e up i).2) := by
  obtain ⟨r, hr⟩ := fol_outer hd he h1 h8 up i ho
  unfold folR; rw [hr]; rfl
theorem outer_bd {up : Bool} {i : Int} (h1 : 1 ≤ n) (ho : Outer n up i) : 0 ≤ i ∧ i < 2 * n := by
  unfold Outer at ho
  split at ho <;> omega
/-- Behind a middle point comes, or ahead of it lies, its mate on the side of d. -/
theorem fol_a (hd : Mt n d) (he : Mt n e) (k : Nat) : ∀ (up : Bool) (i : Int) (E : Int) (L : List Int), 0 ≤ i → i < 2 * n → fol n d e k up i = some (E, L) → ∀ y ∈ L, n ≤ d (n + y) → d (n + y) - n ∈ L ∨ (up = true ∧ d (n + y) - n = i - n) := by
  induction k with
  | zero => intro up i E L _ _ h; simp [fol] at h
  | succ k ih =>
    intro up i E L h0 h2 h y hy hdy
    cases up with
    | true =>
      have b := hd.lt i h0 h2
      unfold fol at h
      split at h
      · simp at h; rw [h.2] at hy; cases hy
      · cases hf : fol n d e k false (d i - n) with
        | none => rw [hf] at h; simp at h
        | some q =>
          rw [hf] at h; simp at h; obtain ⟨rfl, rfl⟩ := h
          rcases List.mem_cons.1 hy with rfl | hy
          · right
            refine ⟨rfl, ?_⟩
            rw [show n + (d i - n) = d i by omega, hd.inv i h0 h2]
          · rcases ih false (d i - n) q.1 q.2 (by omega) (by omega) hf y hy hdy with h | h
            · exact .inl (List.mem_cons_of_mem _ h)
            · cases h.1
    | false =>
      have b := he.lt i h0 h2
      unfold fol at h
      split at h
      · simp at h; rw [h.2] at hy; cases hy
      · rename_i hc
        cases hf : fol n d e k true (n + e i) with
        | none => rw [hf] at h; simp at h
        | some q =>
          rw [hf] at h; simp at h; obtain ⟨rfl, rfl⟩ := h
          left
          rcases List.mem_cons.1 hy with rfl | hy
          · cases k with
            | zero => simp [fol] at hf
            | succ k =>
              rw [fol, if_neg (by omega)] at hf
              cases hg : fol n d e k false (d (n + e i) - n) with
              | none => rw [hg] at hf; simp at hf
              | some q2 => rw [hg] at hf; simp at hf; rw [← hf]; simp
          · rcases ih true (n + e i) q.1 q.2 (by omega) (by omega) hf y hy hdy with h | h
            · exact List.mem_cons_of_mem _ h
            · rw [h.2, show n + e i - n = e i by omega]; simp
theorem fol_b (hd : Mt n d) (he : Mt n e) (k : Nat) : ∀ (up : Bool) (i : Int) (E : Int) (L : List Int), 0 ≤ i → i < 2 * n → fol n d e k up i = some (E, L) → ∀ y ∈ L, e y < n → e y ∈ L ∨ (up = false ∧ e y = i) := by
  induction k with
  | zero => intro up i E L _ _ h; simp [fol] at h
  | succ k ih =>
    intro up i E L h0 h2 h y hy hdy
    cases up with
    | false =>
      have b := he.lt i h0 h2
      unfold fol at h
      split at h
      · simp at h; rw [h.2] at hy; cases hy
      · cases hf : fol n d e k true (n + e i) with
        | none => rw [hf] at h; simp at h
        | some q =>
          rw [hf] at h; simp at h; obtain ⟨rfl, rfl⟩ := h
          rcases List.mem_cons.1 hy with rfl | hy
          · exact .inr ⟨rfl, he.inv i h0 h2⟩
          · rcases ih true (n + e i) q.1 q.2 (by omega) (by omega) hf y hy hdy with h | h
            · exact .inl (List.mem_cons_of_mem _ h)
            · cases h.1
    | true =>
      have b := hd.lt i h0 h2
      unfold fol at h
      split at h
      · simp at h; rw [h.2] at hy; cases hy
      · rename_i hc
        cases hf : fol n d e k false (d i - n) with
        | none => rw [hf] at h; simp at h
        | some q =>
          rw [hf] at h; simp at h; obtain ⟨rfl, rfl⟩ := h
          left
          rcases List.mem_cons.1 hy with rfl | hy
          · cases k with
            | zero => simp [fol] at hf
            | succ k =>
              rw [fol, if_neg (by omega)] at hf
              cases hg : fol n d e k true (n + e (d i - n)) with
              | none => rw [hg] at hf; simp at hf
              | some q2 => rw [hg] at hf; simp at hf; rw [← hf]; simp
          · rcases ih false (d i - n) q.1 q.2 (by omega) (by omega) hf y hy hdy with h | h
            · exact List.mem_cons_of_mem _ h
            · rw [h.2]; simp
end
end Go.Proofs.Ytbibmncepjmgcaa
namespace Go.Proofs.Ytbibmncepjmgcaa.LoopM
theorem cnt_le (mb : List Bool) (i : Nat) : (mb.set i true).count false ≤ mb.count false := by
  induction mb generalizing i with
  | nil => simp
  | cons b mb ih =>
    cases i with
    | zero => cases b <;> simp
    | succ i => have := ih i; cases b <;> simp_all
theorem cnt_lt (mb : List Bool) (i : Nat) (h : mb.getD i true = false) : (mb.set i true).count false + 1 = mb.count false := by
  induction mb generalizing i with
  | nil => simp at h
  | cons b mb ih =>
    cases i with
    | zero => simp at h; subst h; simp
    | succ i => have := ih i (by simpa using h); cases b <;> simp_all
/-- Whether a point is marked. -/
def On (mb : List Bool) (y : Int) : Prop := mb.getD y.toNat true = true
/-- Along a loop, first by u, then by v. -/
def mk (u v : Int → Int) : Nat → Int → List Bool → List Bool
  | 0, _, mb => mb
  | f + 1, p, mb => if mb.getD p.toNat true then mb else mk u v f (v (u p)) ((mb.set p.toNat true).set (u p).toNat true)
theorem mk_len (u v : Int → Int) (f : Nat) (p : Int) (mb : List Bool) : (mk u v f p mb).length = mb.length := by
  induction f generalizing p mb with
  | zero => rfl
  | succ f ih => unfold mk; split <;> simp [ih]
theorem on_set (mb : List Bool) (i y : Int) (hi : 0 ≤ i) (hl : i < mb.length) (hy : 0 ≤ y) : On (mb.set i.toNat true) y ↔ On mb y ∨ y = i := by
  unfold On
  rw [List.getD_eq_getElem?_getD, List.getD_eq_getElem?_getD, List.getElem?_set]
  by_cases e : i.toNat = y.toNat
  · rw [if_pos e, if_pos (by omega)]
    have : y = i := by omega
    simp [this]
  · rw [if_neg e]
    have : y ≠ i := by omega
    simp [this]
/-- The points that are reached from p by u and v. -/
inductive Rch (u v : Int → Int) (p : Int) : Int → Prop
  | refl : Rch u v p p
  | u {y : Int} : Rch u v p y → Rch u v p (u y)
  | v {y : Int} : Rch u v p y → Rch u v p (v y)
theorem Rch.swap {u v : Int → Int} {p y : Int} (h : Rch u v p y) : Rch v u p y := by
  induction h with
  | refl => exact .refl
  | u _ ih => exact .v ih
  | v _ ih => exact .u ih
/-- u is a mating, without fixed points, of the points below n that are not marked. -/
structure Free (n : Int) (mb : List Bool) (u : Int → Int) : Prop where
  bd : ∀ y, 0 ≤ y → y < n → ¬ On mb y → 0 ≤ u y ∧ u y < n
  off : ∀ y, 0 ≤ y → y < n → ¬ On mb y → ¬ On mb (u y)
  inv : ∀ y, 0 ≤ y → y < n → ¬ On mb y → u (u y) = y
  ne : ∀ y, 0 ≤ y → y < n → ¬ On mb y → u y ≠ y
theorem rch_bd {n : Int} {M : List Bool} {u v : Int → Int} (hu : Free n M u) (hv : Free n M v) {p y : Int} (h0 : 0 ≤ p) (h2 : p < n) (hp : ¬ On M p) (h : Rch u v p y) : 0 ≤ y ∧ y < n ∧ ¬ On M y := by
  induction h with
  | refl => exact ⟨h0, h2, hp⟩
  | u _ ih => exact ⟨(hu.bd _ ih.1 ih.2.1 ih.2.2).1, (hu.bd _ ih.1 ih.2.1 ih.2.2).2, hu.off _ ih.1 ih.2.1 ih.2.2⟩
  | v _ ih => exact ⟨(hv.bd _ ih.1 ih.2.1 ih.2.2).1, (hv.bd _ ih.1 ih.2.1 ih.2.2).2, hv.off _ ih.1 ih.2.1 ih.2.2⟩
/-- On the way round a loop that began at q, at the point p. -/
structure Way (n : Int) (M : List Bool) (u v : Int → Int) (q : Int) (S : List Bool) (p : Int) : Prop where
  len : S.length = M.length
  sub : ∀ y, 0 ≤ y → y < n → On M y → On S y
  inn : ∀ y, 0 ≤ y → y < n → On S y → On M y ∨ Rch u v q y
  rch : Rch u v q p
  cu : ∀ y, 0 ≤ y → y < n → ¬ On M y → On S y → On S (u y)
  cv : ∀ y, 0 ≤ y → y < n → On S y → On M y ∨ On S (v y) ∨ v y = p ∨ y = q
  five : On S p → p = q
  six : (S = M ∧ p = q) ∨ On S (v p)
theorem way_step {n : Int} {M : List Bool} {u v : Int → Int} (hn : n ≤ M.length) (hu : Free n M u) (hv : Free n M v) {q : Int} (q0 : 0 ≤ q) (q2 : q < n) (hq : ¬ On M q) {S : List Bool} {p : Int} (h : Way n M u v q S p) (hp : ¬ On S p) : Way n M u v q ((S.set p.toNat true).set (u p).toNat true) (v (u p)) := by
  obtain ⟨b0, b2, bm⟩ := rch_bd hu hv q0 q2 hq h.rch
  have c := hu.bd p b0 b2 bm
  have cm := hu.off p b0 b2 bm
  have ci := hu.inv p b0 b2 bm
  have cn := hu.ne p b0 b2 bm
  have e := hv.bd _ c.1 c.2 cm
  have em := hv.off _ c.1 c.2 cm
  have ei := hv.inv _ c.1 c.2 cm
  have en := hv.ne _ c.1 c.2 cm
  have hl := h.len
  have key : ∀ y, 0 ≤ y → (On ((S.set p.toNat true).set (u p).toNat true) y ↔ On S y ∨ y = p ∨ y = u p) := by
    intro y y0
    rw [on_set _ _ _ c.1 (by simp; omega) y0, on_set _ _ _ b0 (by omega) y0, or_assoc]
  have hup : ¬ On S (u p) := fun x => hp (by have := h.cu _ c.1 c.2 cm x; rwa [ci] at this)
  refine ⟨by simp [hl], ?_, ?_, .v (.u h.rch), ?_, ?_, ?_, .inr ?_⟩
  · intro y y0 y2 hy
    exact (key y y0).2 (.inl (h.sub y y0 y2 hy))
  · intro y y0 y2 hy
    rcases (key y y0).1 hy with hy | rfl | rfl
    · exact h.inn y y0 y2 hy
    · exact .inr h.rch
    · exact .inr (.u h.rch)
  · intro y y0 y2 hm hy
    have yb := hu.bd y y0 y2 hm
    rcases (key y y0).1 hy with hy | rfl | rfl
    · exact (key _ yb.1).2 (.inl (h.cu y y0 y2 hm hy))
    · exact (key _ yb.1).2 (.inr (.inr rfl))
    · rw [ci]; exact (key _ b0).2 (.inr (.inl rfl))
  · intro y y0 y2 hy
    by_cases hm : On M y
    · exact .inl hm
    · have yb := hv.bd y y0 y2 hm
      rcases (key y y0).1 hy with hy | rfl | rfl
      · rcases h.cv y y0 y2 hy with x | x | x | x
        · exact .inl x
        · exact .inr (.inl ((key _ yb.1).2 (.inl x)))
        · exact .inr (.inl ((key _ yb.1).2 (.inr (.inl x))))
        · exact .inr (.inr (.inr x))
      · rcases h.six with ⟨_, x⟩ | x
        · exact .inr (.inr (.inr x))
        · exact .inr (.inl ((key _ yb.1).2 (.inl x)))
      · exact .inr (.inr (.inl rfl))
  · intro hy
    rcases (key _ e.1).1 hy with hy | hy | hy
    · rcases h.cv _ e.1 e.2 hy with x | x | x | x
      · exact absurd x em
      · rw [ei] at x; exact absurd x hup
      · rw [ei] at x; exact absurd x cn
      · exact x
    · rcases h.six with ⟨_, x⟩ | x
      · rw [hy, x]
      · rw [← hy, ei] at x; exact absurd x hup
    · exact absurd hy en
  · rw [ei]; exact (key _ c.1).2 (.inr (.inr rfl))
theorem way_end {n : Int} {M : List Bool} {u v : Int → Int} (hu : Free n M u) (hv : Free n M v) {q : Int} (q0 : 0 ≤ q) (q2 : q < n) (hq : ¬ On M q) {S : List Bool} {p : Int} (h : Way n M u v q S p) (hp : On S p) :
    ∀ y, 0 ≤ y → y < n → (On S y ↔ On M y ∨ Rch u v q y) := by
  have e := h.five hp
  subst e
  have hvp : On S (v p) := by
    rcases h.six with ⟨x, _⟩ | x
    · rw [x] at hp; exact absurd hp hq
    · exact x
  intro y y0 y2
  refine ⟨h.inn y y0 y2, fun x => ?_⟩
  rcases x with x | x
  · exact h.sub y y0 y2 x
  · clear y0 y2
    induction x with
    | refl => exact hp
    | u r ih =>
      have := rch_bd hu hv q0 q2 hq r
      exact h.cu _ this.1 this.2.1 this.2.2 ih
    | v r ih =>
      have b := rch_bd hu hv q0 q2 hq r
      rcases h.cv _ b.1 b.2.1 ih with x | x | x | x
      · exact absurd x b.2.2
      · exact x
      · rw [x]; exact hp
      · rw [x]; exact hvp
theorem mk_way {n : Int} {M : List Bool} {u v : Int → Int} (hn : n ≤ M.length) (hu : Free n M u) (hv : Free n M v) {q : Int} (q0 : 0 ≤ q) (q2 : q < n) (hq : ¬ On M q) (f : Nat) : ∀ (S : List Bool) (p : Int), Way n M u v q S p → S.count false ≤ f →
    ∀ y, 0 ≤ y → y < n → (On (mk u v f p S) y ↔ On M y ∨ Rch u v q y) := by
  induction f with
  | zero =>
    intro S p h hc
    refine way_end hu hv q0 q2 hq h ?_
    unfold On
    cases hx : S.getD p.toNat true with
    | true => exact hx
    | false => have := cnt_lt S _ hx; omega
  | succ f ih =>
    intro S p h hc
    unfold mk
    cases hx : S.getD p.toNat true with
    | true => exact way_end hu hv q0 q2 hq h hx
    | false =>
      have x1 := cnt_lt S _ hx
      have x2 := cnt_le (S.set p.toNat true) (u p).toNat
      exact ih _ _ (way_step hn hu hv q0 q2 hq h (by unfold On; rw [hx]; simp)) (by omega)
theorem mk_on {n : Int} {M : List Bool} {u v : Int → Int} (hn : n ≤ M.length) (hu : Free n M u) (hv : Free n M v) {q : Int} (q0 : 0 ≤ q) (q2 : q < n) (hq : ¬ On M q) (f : Nat) (hf : M.count false ≤ f) :
    ∀ y, 0 ≤ y → y < n → (On (mk u v f q M) y ↔ On M y ∨ Rch u v q y) :=
  mk_way hn hu hv q0 q2 hq f M q ⟨rfl, fun _ _ _ x => x, fun _ _ _ x => .inl x, .refl, fun _ _ _ x y => absurd y x, fun _ _ _ x => .inl x, fun x => absurd x hq, .inl ⟨rfl, rfl⟩⟩ hf
theorem mk_out {n : Int} {M : List Bool} {u v : Int → Int} (hn : n ≤ M.length) (hu : Free n M u) (hv : Free n M v) {q : Int} (q0 : 0 ≤ q) (q2 : q < n) (hq : ¬ On M q) (f : Nat) : ∀ (S : List Bool) (p : Int), Way n M u v q S p → ∀ j : Nat, n ≤ j → (mk u v f p S).getD j true = S.getD j true := by
  induction f with
  | zero => intro S p _ j _; rfl
  | succ f ih =>
    intro S p h j hj
    unfold mk
    cases hx : S.getD p.toNat true with
    | true => rfl
    | false =>
      obtain ⟨b0, b2, bm⟩ := rch_bd hu hv q0 q2 hq h.rch
      have c := hu.bd p b0 b2 bm
      rw [if_neg (by simp), ih _ _ (way_step hn hu hv q0 q2 hq h (by unfold On; rw [hx]; simp)) j hj]
      rw [List.getD_eq_getElem?_getD, List.getD_eq_getElem?_getD, List.getElem?_set_ne (by omega), List.getElem?_set_ne (by omega)]
theorem free_mk {n : Int} {M : List Bool} {u v t : Int → Int} (hn : n ≤ M.length) (hu : Free n M u) (hv : Free n M v) (ht : Free n M t) {q : Int} (q0 : 0 ≤ q) (q2 : q < n) (hq : ¬ On M q) (f : Nat) (hf : M.count false ≤ f) (htr : ∀ y, Rch u v q y → Rch u v q (t y)) : Free n (mk u v f q M) t := by
  have key := mk_on hn hu hv q0 q2 hq f hf
  have nm : ∀ y, 0 ≤ y → y < n → ¬ On (mk u v f q M) y → ¬ On M y := fun y y0 y2 h x => h ((key y y0 y2).2 (.inl x))
  refine ⟨fun y y0 y2 h => ht.bd y y0 y2 (nm y y0 y2 h), fun y y0 y2 h x => ?_, fun y y0 y2 h => ht.inv y y0 y2 (nm y y0 y2 h), fun y y0 y2 h => ht.ne y y0 y2 (nm y y0 y2 h)⟩
  have b := ht.bd y y0 y2 (nm y y0 y2 h)
  rcases (key _ b.1 b.2).1 x with x | x
  · exact ht.off y y0 y2 (nm y y0 y2 h) x
  · have := htr _ x
    rw [ht.inv y y0 y2 (nm y y0 y2 h)] at this
    exact h ((key y y0 y2).2 (.inr this))
/-- What has been marked, and how many loops, behind k points. -/
def lps (u v : Int → Int) (M : List Bool) : Nat → List Bool × Int
  | 0 => (M, 0)
  | k + 1 => if (lps u v M k).1.getD k true then lps u v M k else (mk u v 8 k (lps u v M k).1, (lps u v M k).2 + 1)
theorem lps_len (u v : Int → Int) (M : List Bool) (k : Nat) : (lps u v M k).1.length = M.length := by
  induction k with
  | zero => rfl
  | succ k ih => unfold lps; split <;> simp [mk_len, ih]
theorem lps_bd (u v : Int → Int) (M : List Bool) (k : Nat) : 0 ≤ (lps u v M k).2 ∧ (lps u v M k).2 ≤ k := by
  induction k with
  | zero => simp [lps]
  | succ k ih => unfold lps; split <;> simp <;> omega
theorem bl_ext {n : Int} {A B : List Bool} (hl : A.length = B.length) (h1 : ∀ y, 0 ≤ y → y < n → (On A y ↔ On B y)) (h2 : ∀ j : Nat, n ≤ j → A.getD j true = B.getD j true) : A = B := by
  apply List.ext_getElem hl
  intro j a b
  have g1 : A.getD j true = A[j] := by rw [List.getD_eq_getElem?_getD, List.getElem?_eq_getElem a]; rfl
  have g2 : B.getD j true = B[j] := by rw [List.getD_eq_getElem?_getD, List.getElem?_eq_getElem b]; rfl
  rw [← g1, ← g2]
  by_cases hj : n ≤ j
  · exact h2 j hj
  · have := h1 j (by omega) (by omega)
    unfold On at this
    rw [show ((j : Int)).toNat = j by omega] at this
    cases hx : A.getD j true <;> cases hy : B.getD j true <;> simp_all
theorem lps_swap {n : Int} {M : List Bool} {u v : Int → Int} (h8 : M.length = 8) (hn : n ≤ 8) (hu : Free n M u) (hv : Free n M v) (k : Nat) (hk : (k : Int) ≤ n) :
    lps u v M k = lps v u M k ∧ Free n (lps u v M k).1 u ∧ Free n (lps u v M k).1 v := by
  induction k with
  | zero => exact ⟨rfl, hu, hv⟩
  | succ k ih =>
    obtain ⟨e, fu, fv⟩ := ih (by omega)
    have ll : (lps u v M k).1.length = 8 := by rw [lps_len, h8]
    have hc : (lps u v M k).1.count false ≤ 8 := by rw [← ll]; exact List.count_le_length
    cases hx : (lps u v M k).1.getD k true with
    | true =>
      have e1 : lps u v M (k + 1) = lps u v M k := by rw [lps, if_pos hx]
      have e2 : lps v u M (k + 1) = lps v u M k := by rw [lps, if_pos (by rw [← e]; exact hx)]
      rw [e1, e2]; exact ⟨e, fu, fv⟩
    | false =>
      have e1 : lps u v M (k + 1) = (mk u v 8 k (lps u v M k).1, (lps u v M k).2 + 1) := by rw [lps, if_neg (by rw [hx]; simp)]
      have e2 : lps v u M (k + 1) = (mk v u 8 k (lps u v M k).1, (lps u v M k).2 + 1) := by rw [lps, if_neg (by rw [← e, hx]; simp), ← e]
      have hq : ¬ On (lps u v M k).1 k := by unfold On; rw [show ((k : Int)).toNat = k by omega, hx]; simp
      have A1 := mk_on (by omega) fu fv (by omega) (by omega) hq 8 hc
      have A2 := mk_on (by omega) fv fu (by omega) (by omega) hq 8 hc
      refine ⟨?_, ?_, ?_⟩
      · rw [e1, e2]
        have : mk u v 8 k (lps u v M k).1 = mk v u 8 k (lps u v M k).1 := by
          refine bl_ext (n := n) (by rw [mk_len, mk_len]) (fun y y0 y2 => ?_) (fun j hj => ?_)
          · rw [A1 y y0 y2, A2 y y0 y2]
            exact ⟨fun x => x.imp_right Rch.swap, fun x => x.imp_right Rch.swap⟩
          · rw [mk_out (by omega) fu fv (by omega) (by omega) hq 8 _ _ ⟨rfl, fun _ _ _ x => x, fun _ _ _ x => .inl x, .refl, fun _ _ _ x y => absurd y x, fun _ _ _ x => .inl x, fun x => absurd x hq, .inl ⟨rfl, rfl⟩⟩ j hj, mk_out (by omega) fv fu (by omega) (by omega) hq 8 _ _ ⟨rfl, fun _ _ _ x => x, fun _ _ _ x => .inl x, .refl, fun _ _ _ x y => absurd y x, fun _ _ _ x => .inl x, fun x => absurd x hq, .inl ⟨rfl, rfl⟩⟩ j hj]
        rw [this]
      · rw [e1]; exact free_mk (by omega) fu fv fu (by omega) (by omega) hq 8 hc fun _ x => .u x
      · rw [e1]; exact free_mk (by omega) fu fv fv (by omega) (by omega) hq 8 hc fun _ x => .v x
end Go.Proofs.Ytbibmncepjmgcaa.LoopM
namespace Go.Proofs.Ytbibmncepjmgcaa
open LoopM
/-- The points of a list are marked. -/
def mark : List Int → List Bool → List Bool
  | [], mb => mb
  | y :: L, mb => mark L (mb.set y.toNat true)
theorem mark_len (L : List Int) : ∀ mb : List Bool, (mark L mb).length = mb.length := by
  induction L with
  | nil => intro mb; rfl
  | cons y L ih => intro mb; rw [mark, ih]; simp
theorem mark_on {n : Int} (L : List Int) : ∀ mb : List Bool, n ≤ mb.length → (∀ x ∈ L, 0 ≤ x ∧ x < n) → ∀ y, 0 ≤ y → (On (mark L mb) y ↔ On mb y ∨ y ∈ L) := by
  induction L with
  | nil => intro mb _ _ y _; simp [mark]
  | cons x L ih =>
    intro mb hl hL y y0
    have hx := hL x (by simp)
    rw [mark, ih _ (by simpa using hl) (fun z hz => hL z (by simp [hz])) y y0, on_set _ _ _ hx.1 (by omega) y0]
    simp [or_assoc]
theorem mark_out {n : Int} (L : List Int) : ∀ mb : List Bool, (∀ x ∈ L, 0 ≤ x ∧ x < n) → ∀ j : Nat, n ≤ j → (mark L mb).getD j true = mb.getD j true := by
  induction L with
  | nil => intro mb _ j _; rfl
  | cons x L ih =>
    intro mb hL j hj
    have hx := hL x (by simp)
    rw [mark, ih _ (fun z hz => hL z (by simp [hz])) j hj, List.getD_eq_getElem?_getD, List.getD_eq_getElem?_getD, List.getElem?_set_ne (by omega)]
section
variable {n : Int} {d e : Int → Int}
/-- The other end of the line from an outer point, and the middle points on it. -/
def eP (n : Int) (d e : Int → Int) (p : Int) : Int := (folR n d e (decide (p < n)) p).1
def lP (n : Int) (d e : Int → Int) (p : Int) : List Int := (folR n d e (decide (p < n)) p).2
theorem fol_t {f : Nat} {i E : Int} {L : List Int} (h : fol n d e f true i = some (E, L)) : ∃ f', f = f' + 1 ∧ ((d i < n ∧ E = d i ∧ L = []) ∨ (n ≤ d i ∧ ∃ L', L = (d i - n) :: L' ∧ fol n d e f' false (d i - n) = some (E, L'))) := by
  cases f with
  | zero => simp [fol] at h
  | succ f =>
    refine ⟨f, rfl, ?_⟩
    rw [fol] at h
    split at h
    · rename_i c; simp at h; exact .inl ⟨c, h.1.symm, h.2⟩
    · cases hg : fol n d e f false (d i - n) with
      | none => rw [hg] at h; simp at h
      | some q =>
        rw [hg] at h; simp at h; obtain ⟨rfl, rfl⟩ := h
        exact .inr ⟨by omega, _, rfl, rfl⟩
theorem fol_f {f : Nat} {i E : Int} {L : List Int} (h : fol n d e f false i = some (E, L)) : ∃ f', f = f' + 1 ∧ ((n ≤ e i ∧ E = e i ∧ L = []) ∨ (e i < n ∧ ∃ L', L = e i :: L' ∧ fol n d e f' true (n + e i) = some (E, L'))) := by
  cases f with
  | zero => simp [fol] at h
  | succ f =>
    refine ⟨f, rfl, ?_⟩
    rw [fol] at h
    split at h
    · rename_i c; simp at h; exact .inl ⟨c, h.1.symm, h.2⟩
    · cases hg : fol n d e f true (n + e i) with
      | none => rw [hg] at h; simp at h
      | some q =>
        rw [hg] at h; simp at h; obtain ⟨rfl, rfl⟩ := h
        exact .inr ⟨by omega, _, rfl, rfl⟩
theorem outer_of {p : Int} (h0 : 0 ≤ p) (h2 : p < 2 * n) : Outer n (decide (p < n)) p := by
  unfold Outer
  by_cases c : p < n
  · simp [c]; omega
  · simp [c]; omega
theorem fol_p (hd : Mt n d) (he : Mt n e) (h1 : 1 ≤ n) (h8 : n ≤ 8) {p : Int} (h0 : 0 ≤ p) (h2 : p < 2 * n) : fol n d e 17 (decide (p < n)) p = some (eP n d e p, lP n d e p) :=
  folR_eq hd he h1 h8 _ _ (outer_of h0 h2)
theorem p_bd (hd : Mt n d) (he : Mt n e) (h1 : 1 ≤ n) (h8 : n ≤ 8) {p : Int} (h0 : 0 ≤ p) (h2 : p < 2 * n) : (0 ≤ eP n d e p ∧ eP n d e p < 2 * n) ∧ ∀ x ∈ lP n d e p, 0 ≤ x ∧ x < n :=
  fol_bd hd he 17 _ p _ _ h0 h2 (fol_p hd he h1 h8 h0 h2)
def f8 : List Bool := List.replicate 8 false
theorem f8_on (y : Int) (h0 : 0 ≤ y) (h8 : y < 8) : ¬ On f8 y := by
  unfold On f8
  rw [List.getD_eq_getElem?_getD, List.getElem?_replicate, if_pos (by omega)]
  simp
/-- The middle points on lines from outer points: point after point. -/
def metI (n : Int) (d e : Int → Int) : Nat → List Bool
  | 0 => f8
  | k + 1 => mark (lP n d e k) (metI n d e k)
/-- The middle points on lines from outer points: one above and one below in turns. -/
def metS (n : Int) (d e : Int → Int) : Nat → List Bool
  | 0 => f8
  | k + 1 => mark (lP n d e (n + k)) (mark (lP n d e k) (metS n d e k))
theorem metI_len (n : Int) (d e : Int → Int) (k : Nat) : (metI n d e k).length = 8 := by
  induction k with
  | zero => rfl
  | succ k ih => rw [metI, mark_len, ih]
theorem metS_len (n : Int) (d e : Int → Int) (k : Nat) : (metS n d e k).length = 8 := by
  induction k with
  | zero => rfl
  | succ k ih => rw [metS, mark_len, mark_len, ih]
theorem metI_on (hd : Mt n d) (he : Mt n e) (h1 : 1 ≤ n) (h8 : n ≤ 8) (k : Nat) (hk : (k : Int) ≤ 2 * n) (y : Int) (y0 : 0 ≤ y) (y2 : y < 8) : On (metI n d e k) y ↔ ∃ p : Int, 0 ≤ p ∧ p < k ∧ y ∈ lP n d e p := by
  induction k with
  | zero =>
    refine ⟨fun h => absurd h (f8_on y y0 y2), ?_⟩
    rintro ⟨p, a, b, _⟩; omega
  | succ k ih =>
    rw [metI, mark_on _ _ (by rw [metI_len]; omega) (p_bd hd he h1 h8 (by omega) (by omega)).2 y y0, ih (by omega)]
    constructor
    · rintro (⟨p, a, b, c⟩ | h)
      · exact ⟨p, a, by omega, c⟩
      · exact ⟨k, by omega, by omega, h⟩
    · rintro ⟨p, a, b, c⟩
      by_cases x : p = k
      · subst x; exact .inr c
      · exact .inl ⟨p, a, by omega, c⟩
theorem metS_on (hd : Mt n d) (he : Mt n e) (h1 : 1 ≤ n) (h8 : n ≤ 8) (k : Nat) (hk : (k : Int) ≤ n) (y : Int) (y0 : 0 ≤ y) (y2 : y < 8) : On (metS n d e k) y ↔ ∃ p : Int, 0 ≤ p ∧ p < k ∧ (y ∈ lP n d e p ∨ y ∈ lP n d e (n + p)) := by
  induction k with
  | zero =>
    refine ⟨fun h => absurd h (f8_on y y0 y2), ?_⟩
    rintro ⟨p, a, b, _⟩; omega
  | succ k ih =>
    rw [metS, mark_on _ _ (by rw [mark_len, metS_len]; omega) (p_bd hd he h1 h8 (by omega) (by omega)).2 y y0, mark_on _ _ (by rw [metS_len]; omega) (p_bd hd he h1 h8 (by omega) (by omega)).2 y y0, ih (by omega)]
    constructor
    · rintro ((⟨p, a, b, c⟩ | h) | h)
      · exact ⟨p, a, by omega, c⟩
      · exact ⟨k, by omega, by omega, .inl h⟩
      · exact ⟨k, by omega, by omega, .inr h⟩
    · rintro ⟨p, a, b, c⟩
      by_cases x : p = k
      · subst x
        rcases c with c | c
        · exact .inl (.inr c)
        · exact .inr c
      · exact .inl (.inl ⟨p, a, by omega, c⟩)
theorem metI_out (hd : Mt n d) (he : Mt n e) (h1 : 1 ≤ n) (h8 : n ≤ 8) (k : Nat) (hk : (k : Int) ≤ 2 * n) (j : Nat) (hj : n ≤ j) : (metI n d e k).getD j true = f8.getD j true := by
  induction k with
  | zero => rfl
  | succ k ih => rw [metI, mark_out _ _ (p_bd hd he h1 h8 (by omega) (by omega)).2 j hj, ih (by omega)]
theorem metS_out (hd : Mt n d) (he : Mt n e) (h1 : 1 ≤ n) (h8 : n ≤ 8) (k : Nat) (hk : (k : Int) ≤ n) (j : Nat) (hj : n ≤ j) : (metS n d e k).getD j true = f8.getD j true := by
  induction k with
  | zero => rfl
  | succ k ih => rw [metS, mark_out _ _ (p_bd hd he h1 h8 (by omega) (by omega)).2 j hj, mark_out _ _ (p_bd hd he h1 h8 (by omega) (by omega)).2 j hj, ih (by omega)]
theorem met_eq (hd : Mt n d) (he : Mt n e) (h1 : 1 ≤ n) (h8 : n ≤ 8) : metS n d e n.toNat = metI n d e (2 * n).toNat := by
  refine bl_ext (n := n) (by rw [metS_len, metI_len]) (fun y y0 y2 => ?_) (fun j hj => ?_)
  · rw [metS_on hd he h1 h8 _ (by omega) y y0 (by omega), metI_on hd he h1 h8 _ (by omega) y y0 (by omega)]
    constructor
    · rintro ⟨p, a, b, c | c⟩
      · exact ⟨p, a, by omega, c⟩
      · exact ⟨n + p, by omega, by omega, c⟩
    · rintro ⟨p, a, b, c⟩
      by_cases x : p < n
      · exact ⟨p, a, by omega, .inl c⟩
      · exact ⟨p - n, by omega, by omega, .inr (by rw [show n + (p - n) = p by omega]; exact c)⟩
  · rw [metS_out hd he h1 h8 _ (by omega) j hj, metI_out hd he h1 h8 _ (by omega) j hj]
/-- The mate of a middle point on the side of d, and what is on outer lines. -/
def vD (n : Int) (d : Int → Int) (y : Int) : Int := d (n + y) - n
def metA (n : Int) (d e : Int → Int) : List Bool := metI n d e (2 * n).toNat
theorem metA_len (n : Int) (d e : Int → Int) : (metA n d e).length = 8 := metI_len _ _ _ _
theorem metA_on (hd : Mt n d) (he : Mt n e) (h1 : 1 ≤ n) (h8 : n ≤ 8) (y : Int) (y0 : 0 ≤ y) (y2 : y < n) : On (metA n d e) y ↔ ∃ p : Int, 0 ≤ p ∧ p < 2 * n ∧ y ∈ lP n d e p := by
  unfold metA
  rw [metI_on hd he h1 h8 _ (by omega) y y0 (by omega)]
  constructor
  · rintro ⟨p, a, b, c⟩; exact ⟨p, a, by omega, c⟩
  · rintro ⟨p, a, b, c⟩; exact ⟨p, a, by omega, c⟩
theorem lP_head_u (hd : Mt n d) (he : Mt n e) (h1 : 1 ≤ n) (h8 : n ≤ 8) (p : Int) (h0 : 0 ≤ p) (h2 : p < n) (h : n ≤ d p) : d p - n ∈ lP n d e p := by
  have hf := fol_p hd he h1 h8 h0 (by omega)
  rw [show decide (p < n) = true by simp [h2], fol, if_neg (by omega)] at hf
  cases hg : fol n d e 16 false (d p - n) with
  | none => rw [hg] at hf; simp at hf
  | some q => rw [hg] at hf; simp at hf; rw [← hf.2]; simp
theorem lP_head_l (hd : Mt n d) (he : Mt n e) (h1 : 1 ≤ n) (h8 : n ≤ 8) (p : Int) (h0 : n ≤ p) (h2 : p < 2 * n) (h : e p < n) : e p ∈ lP n d e p := by
  have hf := fol_p hd he h1 h8 (by omega) h2
  rw [show decide (p < n) = false by simp; omega, fol, if_neg (by omega)] at hf
  cases hg : fol n d e 16 true (n + e p) with
  | none => rw [hg] at hf; simp at hf
  | some q => rw [hg] at hf; simp at hf; rw [← hf.2]; simp
theorem free_d (hd : Mt n d) (he : Mt n e) (h1 : 1 ≤ n) (h8 : n ≤ 8) : Free n (metA n d e) (vD n d) := by
  have mid : ∀ y, 0 ≤ y → y < n → ¬ On (metA n d e) y → n ≤ d (n + y) := by
    intro y y0 y2 hy
    refine Decidable.byContradiction fun c => hy ?_
    have b := hd.lt (n + y) (by omega) (by omega)
    have i := hd.inv (n + y) (by omega) (by omega)
    refine (metA_on hd he h1 h8 y y0 y2).2 ⟨d (n + y), b.1, b.2, ?_⟩
    have := lP_head_u hd he h1 h8 (d (n + y)) b.1 (by omega) (by omega)
    rwa [i, show n + y - n = y by omega] at this
  refine ⟨fun y y0 y2 hy => ?_, fun y y0 y2 hy x => ?_, fun y y0 y2 hy => ?_, fun y y0 y2 hy => ?_⟩
  · have b := hd.lt (n + y) (by omega) (by omega)
    have := mid y y0 y2 hy
    unfold vD; omega
  · have b := hd.lt (n + y) (by omega) (by omega)
    have i := hd.inv (n + y) (by omega) (by omega)
    have m := mid y y0 y2 hy
    obtain ⟨p, p0, p2, hp⟩ := (metA_on hd he h1 h8 _ (by unfold vD; omega) (by unfold vD; omega)).1 x
    unfold vD at hp
    have e1 : n + (d (n + y) - n) = d (n + y) := by omega
    rcases fol_a hd he 17 _ p _ _ p0 p2 (fol_p hd he h1 h8 p0 p2) _ hp (by rw [e1, i]; omega) with h | h
    · rw [e1, i, show n + y - n = y by omega] at h
      exact hy ((metA_on hd he h1 h8 y y0 y2).2 ⟨p, p0, p2, h⟩)
    · rw [e1, i] at h
      have := h.1
      simp at this
      omega
  · have b := hd.lt (n + y) (by omega) (by omega)
    unfold vD
    rw [show n + (d (n + y) - n) = d (n + y) by omega, hd.inv _ (by omega) (by omega)]; omega
  · have := hd.ne (n + y) (by omega) (by omega)
    unfold vD; omega
theorem free_e (hd : Mt n d) (he : Mt n e) (h1 : 1 ≤ n) (h8 : n ≤ 8) : Free n (metA n d e) e := by
  have mid : ∀ y, 0 ≤ y → y < n → ¬ On (metA n d e) y → e y < n := by
    intro y y0 y2 hy
    refine Decidable.byContradiction fun c => hy ?_
    have b := he.lt y y0 (by omega)
    have i := he.inv y y0 (by omega)
    refine (metA_on hd he h1 h8 y y0 y2).2 ⟨e y, b.1, b.2, ?_⟩
    have := lP_head_l hd he h1 h8 (e y) (by omega) b.2 (by omega)
    rwa [i] at this
  refine ⟨fun y y0 y2 hy => ?_, fun y y0 y2 hy x => ?_, fun y y0 y2 hy => he.inv y y0 (by omega), fun y y0 y2 hy => he.ne y y0 (by omega)⟩
  · have b := he.lt y y0 (by omega)
    have := mid y y0 y2 hy
    omega
  · have b := he.lt y y0 (by omega)
    have i := he.inv y y0 (by omega)
    have m := mid y y0 y2 hy
    obtain ⟨p, p0, p2, hp⟩ := (metA_on hd he h1 h8 _ b.1 m).1 x
    rcases fol_b hd he 17 _ p _ _ p0 p2 (fol_p hd he h1 h8 p0 p2) _ hp (by rw [i]; omega) with h | h
    · rw [i] at h
      exact hy ((metA_on hd he h1 h8 y y0 y2).2 ⟨p, p0, p2, h⟩)
    · rw [i] at h
      have := h.1
      simp at this
      omega
/-- The number of loops of a product. -/
def loopsP (n : Int) (d e : Int → Int) : Int := (lps e (vD n d) (metA n d e) n.toNat).2
theorem loops_eq (hd : Mt n d) (he : Mt n e) (h1 : 1 ≤ n) (h8 : n ≤ 8) : (lps (vD n d) e (metA n d e) n.toNat).2 = loopsP n d e := by
  rw [loopsP, (lps_swap (metA_len n d e) h8 (free_e hd he h1 h8) (free_d hd he h1 h8) n.toNat (by omega)).1]
/-- The mates of the product, of the first k points; and of the first k above and below. -/
def prI (n : Int) (d e : Int → Int) : Nat → List Int
  | 0 => zeros
  | k + 1 => (prI n d e k).set k (eP n d e k)
def prS (n : Int) (d e : Int → Int) : Nat → List Int
  | 0 => zeros
  | k + 1 => ((prS n d e k).set k (eP n d e k)).set (n + k).toNat (eP n d e (n + k))
theorem prI_len (n : Int) (d e : Int → Int) (k : Nat) : (prI n d e k).length = 16 := by
  induction k with
  | zero => rfl
  | succ k ih => simp [prI, ih]
theorem prS_len (n : Int) (d e : Int → Int) (k : Nat) : (prS n d e k).length = 16 := by
  induction k with
  | zero => rfl
  | succ k ih => simp [prS, ih]
theorem prI_get (h8 : n ≤ 8) (k : Nat) (hk : (k : Int) ≤ 2 * n) (j : Nat) : (prI n d e k).getD j 0 = if j < k then eP n d e j else 0 := by
  induction k with
  | zero => rw [if_neg (by omega)]; exact zeros_get j
  | succ k ih =>
    rw [prI, set_get _ (prI_len n d e k) _ (by omega), ih (by omega)]
    by_cases x : j = k
    · subst x; rw [if_pos rfl, if_pos (by omega)]
    · rw [if_neg x]
      by_cases y : j < k
      · rw [if_pos y, if_pos (by omega)]
      · rw [if_neg y, if_neg (by omega)]
theorem prS_get (h8 : n ≤ 8) (k : Nat) (hk : (k : Int) ≤ n) (j : Nat) : (prS n d e k).getD j 0 = if j < k ∨ (n ≤ j ∧ (j : Int) < n + k) then eP n d e j else 0 := by
  induction k with
  | zero => rw [if_neg (by omega)]; exact zeros_get j
  | succ k ih =>
    rw [prS, set_get _ (by simp [prS_len]) _ (by omega), set_get _ (prS_len n d e k) _ (by omega), ih (by omega)]
    by_cases x : j = (n + k).toNat
    · rw [if_pos x, if_pos (by omega), show ((j : Nat) : Int) = n + k by omega]
    · rw [if_neg x]
      by_cases y : j = k
      · subst y; rw [if_pos rfl, if_pos (by omega)]
      · rw [if_neg y]
        by_cases z : j < k ∨ (n ≤ j ∧ (j : Int) < n + k)
        · rw [if_pos z, if_pos (by omega)]
        · rw [if_neg z, if_neg (by omega)]
/-- The mates of the product. -/
def prodL (n : Int) (d e : Int → Int) : List Int := prI n d e (2 * n).toNat
theorem prodL_len (n : Int) (d e : Int → Int) : (prodL n d e).length = 16 := prI_len _ _ _ _
theorem prod_eq (h1 : 1 ≤ n) (h8 : n ≤ 8) : prS n d e n.toNat = prodL n d e := by
  apply List.ext_getElem (by rw [prodL_len, prS_len])
  intro j a b
  have g1 : (prS n d e n.toNat).getD j 0 = (prS n d e n.toNat)[j] := by rw [List.getD_eq_getElem?_getD, List.getElem?_eq_getElem a]; rfl
  have g2 : (prodL n d e).getD j 0 = (prodL n d e)[j] := by rw [List.getD_eq_getElem?_getD, List.getElem?_eq_getElem b]; rfl
  rw [← g1, ← g2, prS_get h8 _ (by omega), prodL, prI_get h8 _ (by omega)]
  by_cases c : j < (2 * n).toNat
  · rw [if_pos c, if_pos (by omega)]
  · rw [if_neg c, if_neg (by omega)]
end
end Go.Proofs.Ytbibmncepjmgcaa
namespace Go.Proofs.Ytbibmncepjmgcaa
open LoopM
set_option linter.unusedVariables false
section
variable {n : Int} {d e : Int → Int}
/-- Where a way along a line ends. -/
def Ends (n : Int) (d e : Int → Int) (up : Bool) (i R : Int) : Prop := ∃ k M, fol n d e k up i = some (R, M)
theorem Ends.det {up : Bool} {i R R' : Int} (h : Ends n d e up i R) (h' : Ends n d e up i R') : R = R' := by
  obtain ⟨k, M, h⟩ := h
  obtain ⟨k', M', h'⟩ := h'
  rcases Nat.le_total k k' with c | c
  · have := fol_le c h; rw [this] at h'; simp at h'; exact h'.1
  · have := fol_le c h'; rw [this] at h; simp at h; exact h.1.symm
theorem Ends.t {i R : Int} (h : n ≤ d i) (hr : Ends n d e false (d i - n) R) : Ends n d e true i R := by
  obtain ⟨k, M, hk⟩ := hr
  exact ⟨k + 1, _, by rw [fol, if_neg (by omega), hk]; rfl⟩
theorem Ends.f {i R : Int} (h : e i < n) (hr : Ends n d e true (n + e i) R) : Ends n d e false i R := by
  obtain ⟨k, M, hk⟩ := hr
  exact ⟨k + 1, _, by rw [fol, if_neg (by omega), hk]; rfl⟩
theorem Ends.t0 {i : Int} (h : d i < n) : Ends n d e true i (d i) := ⟨1, [], by rw [fol, if_pos h]⟩
theorem Ends.f0 {i : Int} (h : n ≤ e i) : Ends n d e false i (e i) := ⟨1, [], by rw [fol, if_pos h]⟩
/-- The way back from a state leads to p. -/
def Back (n : Int) (d e : Int → Int) (p : Int) : Bool → Int → Prop
  | true, i => (i = p ∧ i < n) ∨ (n ≤ i ∧ Ends n d e false (i - n) p)
  | false, i => (i = p ∧ n ≤ i) ∨ (i < n ∧ Ends n d e true (n + i) p)
/-- From a middle point the two ways lead to these two ends. -/
def Both (n : Int) (d e : Int → Int) (y p E : Int) : Prop := (Ends n d e false y E ∧ Ends n d e true (n + y) p) ∨ (Ends n d e true (n + y) E ∧ Ends n d e false y p)
theorem fol_both (hd : Mt n d) (he : Mt n e) (p : Int) (k : Nat) : ∀ (up : Bool) (i E : Int) (L : List Int), 0 ≤ i → i < 2 * n → Back n d e p up i → fol n d e k up i = some (E, L) → (∀ y ∈ L, Both n d e y p E) ∧ Ends n d e (decide (E < n)) E p := by
  induction k with
  | zero => intro up i E L _ _ _ h; simp [fol] at h
  | succ k ih =>
    intro up i E L i0 i2 hb h
    cases up with
    | true =>
      have db := hd.lt i i0 i2
      have di := hd.inv i i0 i2
      obtain ⟨f, hf, hc⟩ := fol_t h
      have hf : k = f := by omega
      subst hf
      rcases hc with ⟨c, rfl, rfl⟩ | ⟨c, L', rfl, h'⟩
      · refine ⟨by simp, ?_⟩
        rw [show decide (d i < n) = true by simp [c]]
        rcases hb with ⟨rfl, h1⟩ | ⟨h1, h2⟩
        · have := Ends.t0 (n := n) (d := d) (e := e) (i := d i) (by rw [di]; exact h1)
          rwa [di] at this
        · exact Ends.t (by rw [di]; exact h1) (by rw [di]; exact h2)
      · have hb2 : Ends n d e true (d i) p := by
          rcases hb with ⟨rfl, h1⟩ | ⟨h1, h2⟩
          · have := Ends.t0 (n := n) (d := d) (e := e) (i := d i) (by rw [di]; exact h1)
            rwa [di] at this
          · exact Ends.t (by rw [di]; exact h1) (by rw [di]; exact h2)
        have hh := ih false (d i - n) E L' (by omega) (by omega) (.inr ⟨by omega, by rw [show n + (d i - n) = d i by omega]; exact hb2⟩) h'
        refine ⟨fun y hy => ?_, hh.2⟩
        rcases List.mem_cons.1 hy with rfl | hy
        · exact .inl ⟨⟨_, _, h'⟩, by rw [show n + (d i - n) = d i by omega]; exact hb2⟩
        · exact hh.1 y hy
    | false =>
      have db := he.lt i i0 i2
      have di := he.inv i i0 i2
      obtain ⟨f, hf, hc⟩ := fol_f h
      have hf : k = f := by omega
      subst hf
      rcases hc with ⟨c, rfl, rfl⟩ | ⟨c, L', rfl, h'⟩
      · refine ⟨by simp, ?_⟩
        rw [show decide (e i < n) = false by simp [c]]
        rcases hb with ⟨rfl, h1⟩ | ⟨h1, h2⟩
        · have := Ends.f0 (n := n) (d := d) (e := e) (i := e i) (by rw [di]; exact h1)
          rwa [di] at this
        · exact Ends.f (by rw [di]; exact h1) (by rw [di]; exact h2)
      · have hb2 : Ends n d e false (e i) p := by
          rcases hb with ⟨rfl, h1⟩ | ⟨h1, h2⟩
          · have := Ends.f0 (n := n) (d := d) (e := e) (i := e i) (by rw [di]; exact h1)
            rwa [di] at this
          · exact Ends.f (by rw [di]; exact h1) (by rw [di]; exact h2)
        have hh := ih true (n + e i) E L' (by omega) (by omega) (.inr ⟨by omega, by rw [show n + e i - n = e i by omega]; exact hb2⟩) h'
        refine ⟨fun y hy => ?_, hh.2⟩
        rcases List.mem_cons.1 hy with rfl | hy
        · exact .inr ⟨⟨_, _, h'⟩, hb2⟩
        · exact hh.1 y hy
theorem back_outer {p : Int} : Back n d e p (decide (p < n)) p := by
  by_cases c : p < n
  · rw [show decide (p < n) = true by simp [c]]; exact .inl ⟨rfl, c⟩
  · rw [show decide (p < n) = false by simp [c]]; exact .inl ⟨rfl, by omega⟩
theorem eP_inv (hd : Mt n d) (he : Mt n e) (h1 : 1 ≤ n) (h8 : n ≤ 8) {p : Int} (h0 : 0 ≤ p) (h2 : p < 2 * n) : eP n d e (eP n d e p) = p := by
  have hf := fol_p hd he h1 h8 h0 h2
  have b := (p_bd hd he h1 h8 h0 h2).1
  have := (fol_both hd he p 17 _ p _ _ h0 h2 back_outer hf).2
  exact Ends.det ⟨17, _, fol_p hd he h1 h8 b.1 b.2⟩ this
/-- Lines with a common middle point are one line. -/
theorem lP_meet (hd : Mt n d) (he : Mt n e) (h1 : 1 ≤ n) (h8 : n ≤ 8) {p q y : Int} (h0 : 0 ≤ p) (h2 : p < 2 * n) (k0 : 0 ≤ q) (k2 : q < 2 * n) (hp : y ∈ lP n d e p) (hq : y ∈ lP n d e q) : q = p ∨ q = eP n d e p := by
  have A := (fol_both hd he p 17 _ p _ _ h0 h2 back_outer (fol_p hd he h1 h8 h0 h2)).1 y hp
  have B := (fol_both hd he q 17 _ q _ _ k0 k2 back_outer (fol_p hd he h1 h8 k0 k2)).1 y hq
  rcases A with ⟨a1, a2⟩ | ⟨a1, a2⟩ <;> rcases B with ⟨b1, b2⟩ | ⟨b1, b2⟩
  · exact .inl (b2.det a2)
  · exact .inr (b2.det a1)
  · exact .inr (b2.det a1)
  · exact .inl (b2.det a2)
/-- Lines do not cross. -/
def NC (n : Int) (d : Int → Int) : Prop := ∀ a u, 0 ≤ a → a < 2 * n → 0 ≤ u → u < 2 * n → ¬ (pl n a < pl n u ∧ pl n u < pl n (d a) ∧ pl n (d a) < pl n (d u))
def ib (p : Prop) [Decidable p] : Int := if p then 1 else 0
theorem pl_inj {a b : Int} (a0 : 0 ≤ a) (a2 : a < 2 * n) (b0 : 0 ≤ b) (b2 : b < 2 * n) (h : pl n a = pl n b) : a = b := by
  unfold pl at h
  split at h <;> split at h <;> omega
theorem chord_par (hd : Mt n d) (hn : NC n d) {a u : Int} (a0 : 0 ≤ a) (a2 : a < 2 * n) (u0 : 0 ≤ u) (u2 : u < 2 * n) (h1 : u ≠ a) (h2 : u ≠ d a) :
    (ib (pl n a < pl n u) + ib (pl n (d a) < pl n u) - ib (pl n a < pl n (d u)) - ib (pl n (d a) < pl n (d u))) % 2 = 0 := by
  have ab := hd.lt a a0 a2
  have ub := hd.lt u u0 u2
  have ai := hd.inv a a0 a2
  have ui := hd.inv u u0 u2
  have x1 := hn a u a0 a2 u0 u2
  have x2 := hn a (d u) a0 a2 ub.1 ub.2
  have x3 := hn (d a) u ab.1 ab.2 u0 u2
  have x4 := hn (d a) (d u) ab.1 ab.2 ub.1 ub.2
  have y1 := hn u a u0 u2 a0 a2
  have y2 := hn (d u) a ub.1 ub.2 a0 a2
  have y3 := hn u (d a) u0 u2 ab.1 ab.2
  have y4 := hn (d u) (d a) ub.1 ub.2 ab.1 ab.2
  rw [ui] at x2 x4 y2 y4
  rw [ai] at x3 x4 y3 y4
  have n1 : pl n u ≠ pl n a := fun h => h1 (pl_inj u0 u2 a0 a2 h)
  have n2 : pl n u ≠ pl n (d a) := fun h => h2 (pl_inj u0 u2 ab.1 ab.2 h)
  have n3 : pl n (d u) ≠ pl n a := fun h => h2 (by rw [← pl_inj ub.1 ub.2 a0 a2 h, ui])
  have n4 : pl n (d u) ≠ pl n (d a) := fun h => h1 (by rw [← ui, pl_inj ub.1 ub.2 ab.1 ab.2 h, ai])
  have n5 : pl n (d u) ≠ pl n u := fun h => hd.ne u u0 u2 (pl_inj ub.1 ub.2 u0 u2 h)
  have n6 : pl n (d a) ≠ pl n a := fun h => hd.ne a a0 a2 (pl_inj ab.1 ab.2 a0 a2 h)
  clear hn hd h1 h2 ai ui ab ub a0 a2 u0 u2
  generalize pl n a = A at *
  generalize pl n (d a) = B at *
  generalize pl n u = U at *
  generalize pl n (d u) = V at *
  have L : ∀ {x z : Int}, x < z → ib (x < z) = 1 := fun h => if_pos h
  have G : ∀ {x z : Int}, z < x → ib (x < z) = 0 := fun h => if_neg (by omega)
  rcases Int.lt_or_gt_of_ne n1 with h1 | h1 <;> rcases Int.lt_or_gt_of_ne n2 with h2 | h2 <;> rcases Int.lt_or_gt_of_ne n3 with h3 | h3 <;> rcases Int.lt_or_gt_of_ne n4 with h4 | h4 <;>
    first
    | (rw [G h1, G h2, G h3, G h4]; rfl) | (rw [L h1, L h2, L h3, L h4]; rfl)
    | (rw [G h1, G h2, L h3, L h4]; rfl) | (rw [L h1, L h2, G h3, G h4]; rfl)
    | (rw [G h1, L h2, G h3, L h4]; rfl) | (rw [L h1, G h2, L h3, G h4]; rfl)
    | (rw [G h1, L h2, L h3, G h4]; rfl) | (rw [L h1, G h2, G h3, L h4]; rfl)
    | exact (x1 ⟨by assumption, by assumption, by assumption⟩).elim | exact (x2 ⟨by assumption, by assumption, by assumption⟩).elim
    | exact (x3 ⟨by assumption, by assumption, by assumption⟩).elim | exact (x4 ⟨by assumption, by assumption, by assumption⟩).elim
    | exact (y1 ⟨by assumption, by assumption, by assumption⟩).elim | exact (y2 ⟨by assumption, by assumption, by assumption⟩).elim
    | exact (y3 ⟨by assumption, by assumption, by assumption⟩).elim | exact (y4 ⟨by assumption, by assumption, by assumption⟩).elim
/-- How many ends of a way's lines, on the side of d or of e, come ahead of a place. -/
def cD (n : Int) (d e : Int → Int) : Nat → Bool → Int → Int → Int
  | 0, _, _, _ => 0
  | k + 1, true, i, x => ib (pl n i < x) + ib (pl n (d i) < x) + (if d i < n then 0 else cD n d e k false (d i - n) x)
  | k + 1, false, i, x => if n ≤ e i then 0 else cD n d e k true (n + e i) x
def cE (n : Int) (d e : Int → Int) : Nat → Bool → Int → Int → Int
  | 0, _, _, _ => 0
  | k + 1, true, i, x => if d i < n then 0 else cE n d e k false (d i - n) x
  | k + 1, false, i, x => ib (pl n i < x) + ib (pl n (e i) < x) + (if n ≤ e i then 0 else cE n d e k true (n + e i) x)
/-- A point of d, or of e, does not lie on a way. -/
def OffD (n : Int) (d e : Int → Int) : Nat → Bool → Int → Int → Prop
  | 0, _, _, _ => True
  | k + 1, true, i, u => u ≠ i ∧ u ≠ d i ∧ (n ≤ d i → OffD n d e k false (d i - n) u)
  | k + 1, false, i, u => e i < n → OffD n d e k true (n + e i) u
def OffE (n : Int) (d e : Int → Int) : Nat → Bool → Int → Int → Prop
  | 0, _, _, _ => True
  | k + 1, true, i, u => n ≤ d i → OffE n d e k false (d i - n) u
  | k + 1, false, i, u => u ≠ i ∧ u ≠ e i ∧ (e i < n → OffE n d e k true (n + e i) u)
theorem cD_par (hd : Mt n d) (he : Mt n e) (hn : NC n d) {u : Int} (u0 : 0 ≤ u) (u2 : u < 2 * n) (k : Nat) : ∀ (up : Bool) (i : Int), 0 ≤ i → i < 2 * n → OffD n d e k up i u → (cD n d e k up i (pl n u) - cD n d e k up i (pl n (d u))) % 2 = 0 := by
  induction k with
  | zero => intro up i _ _ _; simp [cD]
  | succ k ih =>
    intro up i i0 i2 h
    cases up with
    | true =>
      have b := hd.lt i i0 i2
      have x := chord_par hd hn i0 i2 u0 u2 h.1 h.2.1
      unfold cD
      split
      · omega
      · have := ih false (d i - n) (by omega) (by omega) (h.2.2 (by omega)); omega
    | false =>
      have b := he.lt i i0 i2
      unfold cD
      split
      · rfl
      · exact ih true (n + e i) (by omega) (by omega) (h (by omega))
theorem cE_par (hd : Mt n d) (he : Mt n e) (hn : NC n e) {u : Int} (u0 : 0 ≤ u) (u2 : u < 2 * n) (k : Nat) : ∀ (up : Bool) (i : Int), 0 ≤ i → i < 2 * n → OffE n d e k up i u → (cE n d e k up i (pl n u) - cE n d e k up i (pl n (e u))) % 2 = 0 := by
  induction k with
  | zero => intro up i _ _ _; simp [cE]
  | succ k ih =>
    intro up i i0 i2 h
    cases up with
    | false =>
      have b := he.lt i i0 i2
      have x := chord_par he hn i0 i2 u0 u2 h.1 h.2.1
      unfold cE
      split
      · omega
      · have := ih true (n + e i) (by omega) (by omega) (h.2.2 (by omega)); omega
    | true =>
      have b := hd.lt i i0 i2
      unfold cE
      split
      · rfl
      · exact ih false (d i - n) (by omega) (by omega) (h (by omega))
/-- At a middle point that is not on the way, the two counts differ by what does not depend on the point. -/
theorem mid_par (hd : Mt n d) (he : Mt n e) {y : Int} (y0 : 0 ≤ y) (y2 : y < n) (k : Nat) : ∀ (up : Bool) (i E : Int) (L : List Int), 0 ≤ i → i < 2 * n → fol n d e k up i = some (E, L) → y ∉ L → (up = true → n ≤ i → i - n ≠ y) → (up = false → i < n → i ≠ y) →
    (cD n d e k up i (2 * n - 1 - y) + cE n d e k up i y - L.length - ib (E < n) - (if up = true then (if i < n then 1 else ib (y < i - n)) else (if n ≤ i then 0 else ib (i < y)))) % 2 = 0 := by
  induction k with
  | zero => intro up i E L _ _ h; simp [fol] at h
  | succ k ih =>
    intro up i E L i0 i2 h hy hu hf
    cases up with
    | true =>
      have b := hd.lt i i0 i2
      obtain ⟨f, hff, hc⟩ := fol_t h
      have hff : k = f := by omega
      subst hff
      have P : ib (pl n i < 2 * n - 1 - y) = if i < n then 1 else ib (y < i - n) := by
        by_cases c : i < n
        · rw [show pl n i = i by unfold pl; rw [if_pos c], if_pos c]
          unfold ib
          rw [if_pos (by omega)]
        · rw [show pl n i = 3 * n - 1 - i by unfold pl; rw [if_neg c], if_neg c]
          have := hu rfl (by omega)
          unfold ib
          by_cases c2 : y < i - n
          · rw [if_pos c2, if_pos (by omega)]
          · rw [if_neg c2, if_neg (by omega)]
      rw [if_pos rfl, ← P]
      rcases hc with ⟨c, rfl, rfl⟩ | ⟨c, L', rfl, h'⟩
      · unfold cD cE
        rw [if_pos c, if_pos c]
        have : ib (pl n (d i) < 2 * n - 1 - y) = ib (d i < n) := by
          rw [show pl n (d i) = d i by unfold pl; rw [if_pos c]]
          unfold ib
          rw [if_pos c, if_pos (by omega)]
        rw [this]
        simp
      · simp only [List.mem_cons, not_or] at hy
        have x := ih false (d i - n) E L' (by omega) (by omega) h' hy.2 (by simp) (fun _ _ e => hy.1 e.symm)
        rw [if_neg (by simp), if_neg (by omega)] at x
        unfold cD cE
        rw [if_neg (by omega), if_neg (by omega)]
        have : ib (pl n (d i) < 2 * n - 1 - y) + ib (d i - n < y) = 1 := by
          rw [show pl n (d i) = 3 * n - 1 - d i by unfold pl; rw [if_neg (by omega)]]
          have := hy.1
          unfold ib
          by_cases c2 : d i - n < y
          · rw [if_pos c2, if_neg (by omega)]; rfl
          · rw [if_neg c2, if_pos (by omega)]; rfl
        simp only [List.length_cons]
        omega
    | false =>
      have b := he.lt i i0 i2
      obtain ⟨f, hff, hc⟩ := fol_f h
      have hff : k = f := by omega
      subst hff
      have P : ib (pl n i < y) = if n ≤ i then 0 else ib (i < y) := by
        by_cases c : n ≤ i
        · rw [show pl n i = 3 * n - 1 - i by unfold pl; rw [if_neg (by omega)], if_pos c]
          unfold ib
          rw [if_neg (by omega)]
        · rw [show pl n i = i by unfold pl; rw [if_pos (by omega)], if_neg c]
      rw [if_neg (by simp), ← P]
      rcases hc with ⟨c, rfl, rfl⟩ | ⟨c, L', rfl, h'⟩
      · unfold cD cE
        rw [if_pos c, if_pos c]
        have : ib (pl n (e i) < y) = ib (e i < n) := by
          rw [show pl n (e i) = 3 * n - 1 - e i by unfold pl; rw [if_neg (by omega)]]
          unfold ib
          rw [if_neg (by omega), if_neg (by omega)]
        rw [this]
        simp
      · simp only [List.mem_cons, not_or] at hy
        have x := ih true (n + e i) E L' (by omega) (by omega) h' hy.2 (fun _ _ z => hy.1 (by omega)) (by simp)
        rw [if_pos rfl, if_neg (by omega), show n + e i - n = e i by omega] at x
        unfold cD cE
        rw [if_neg (by omega), if_neg (by omega)]
        have : ib (pl n (e i) < y) + ib (y < e i) = 1 := by
          rw [show pl n (e i) = e i by unfold pl; rw [if_pos (by omega)]]
          have := hy.1
          unfold ib
          by_cases c2 : e i < y
          · rw [if_pos c2, if_neg (by omega)]; rfl
          · rw [if_neg c2, if_pos (by omega)]; rfl
        simp only [List.length_cons]
        omega
theorem offE_mid (hd : Mt n d) (he : Mt n e) {y : Int} (y2 : y < n) (k : Nat) : ∀ (up : Bool) (i E : Int) (L : List Int), 0 ≤ i → i < 2 * n → fol n d e k up i = some (E, L) → y ∉ L → (up = false → i < n → i ≠ y) → OffE n d e k up i y := by
  induction k with
  | zero => intro up i E L _ _ h; simp [fol] at h
  | succ k ih =>
    intro up i E L i0 i2 h hy hf
    cases up with
    | true =>
      have b := hd.lt i i0 i2
      obtain ⟨f, hff, hc⟩ := fol_t h
      have hff : k = f := by omega
      subst hff
      unfold OffE
      intro c
      rcases hc with ⟨c', _⟩ | ⟨_, L', rfl, h'⟩
      · omega
      · simp only [List.mem_cons, not_or] at hy
        exact ih false _ E L' (by omega) (by omega) h' hy.2 (fun _ _ z => hy.1 z.symm)
    | false =>
      have b := he.lt i i0 i2
      obtain ⟨f, hff, hc⟩ := fol_f h
      have hff : k = f := by omega
      subst hff
      unfold OffE
      rcases hc with ⟨c, rfl, rfl⟩ | ⟨c, L', rfl, h'⟩
      · refine ⟨fun z => ?_, by omega, fun z => absurd z (by omega)⟩
        have := hf rfl (by omega); omega
      · simp only [List.mem_cons, not_or] at hy
        refine ⟨fun z => ?_, hy.1, fun _ => ih true _ E L' (by omega) (by omega) h' hy.2 (by simp)⟩
        have := hf rfl (by omega); omega
theorem offD_mid (hd : Mt n d) (he : Mt n e) {y : Int} (y0 : 0 ≤ y) (k : Nat) : ∀ (up : Bool) (i E : Int) (L : List Int), 0 ≤ i → i < 2 * n → fol n d e k up i = some (E, L) → y ∉ L → (up = true → i ≠ n + y) → OffD n d e k up i (n + y) := by
  induction k with
  | zero => intro up i E L _ _ h; simp [fol] at h
  | succ k ih =>
    intro up i E L i0 i2 h hy hf
    cases up with
    | true =>
      have b := hd.lt i i0 i2
      obtain ⟨f, hff, hc⟩ := fol_t h
      have hff : k = f := by omega
      subst hff
      unfold OffD
      rcases hc with ⟨c, rfl, rfl⟩ | ⟨c, L', rfl, h'⟩
      · exact ⟨fun z => hf rfl z.symm, by omega, fun z => absurd z (by omega)⟩
      · simp only [List.mem_cons, not_or] at hy
        exact ⟨fun z => hf rfl z.symm, by omega, fun _ => ih false _ E L' (by omega) (by omega) h' hy.2 (by simp)⟩
    | false =>
      have b := he.lt i i0 i2
      obtain ⟨f, hff, hc⟩ := fol_f h
      have hff : k = f := by omega
      subst hff
      unfold OffD
      intro c
      rcases hc with ⟨c', _⟩ | ⟨_, L', rfl, h'⟩
      · omega
      · simp only [List.mem_cons, not_or] at hy
        exact ih true _ E L' (by omega) (by omega) h' hy.2 (fun _ => by omega)
theorem offD_out (hd : Mt n d) (he : Mt n e) {q : Int} (q2 : q < n) (k : Nat) : ∀ (up : Bool) (i E : Int) (L : List Int), 0 ≤ i → i < 2 * n → fol n d e k up i = some (E, L) → q ≠ E → (up = true → i ≠ q) → OffD n d e k up i q := by
  induction k with
  | zero => intro up i E L _ _ h; simp [fol] at h
  | succ k ih =>
    intro up i E L i0 i2 h hy hf
    cases up with
    | true =>
      have b := hd.lt i i0 i2
      obtain ⟨f, hff, hc⟩ := fol_t h
      have hff : k = f := by omega
      subst hff
      unfold OffD
      rcases hc with ⟨c, rfl, rfl⟩ | ⟨c, L', rfl, h'⟩
      · exact ⟨fun z => hf rfl z.symm, hy, fun z => absurd z (by omega)⟩
      · exact ⟨fun z => hf rfl z.symm, by omega, fun _ => ih false _ E L' (by omega) (by omega) h' hy (by simp)⟩
    | false =>
      have b := he.lt i i0 i2
      obtain ⟨f, hff, hc⟩ := fol_f h
      have hff : k = f := by omega
      subst hff
      unfold OffD
      intro c
      rcases hc with ⟨c', _⟩ | ⟨_, L', rfl, h'⟩
      · omega
      · exact ih true _ E L' (by omega) (by omega) h' hy (fun _ => by omega)
theorem offE_out (hd : Mt n d) (he : Mt n e) {q : Int} (q2 : n ≤ q) (k : Nat) : ∀ (up : Bool) (i E : Int) (L : List Int), 0 ≤ i → i < 2 * n → fol n d e k up i = some (E, L) → q ≠ E → (up = false → i ≠ q) → OffE n d e k up i q := by
  induction k with
  | zero => intro up i E L _ _ h; simp [fol] at h
  | succ k ih =>
    intro up i E L i0 i2 h hy hf
    cases up with
    | true =>
      have b := hd.lt i i0 i2
      obtain ⟨f, hff, hc⟩ := fol_t h
      have hff : k = f := by omega
      subst hff
      unfold OffE
      intro c
      rcases hc with ⟨c', _⟩ | ⟨_, L', rfl, h'⟩
      · omega
      · exact ih false _ E L' (by omega) (by omega) h' hy (fun _ => by omega)
    | false =>
      have b := he.lt i i0 i2
      obtain ⟨f, hff, hc⟩ := fol_f h
      have hff : k = f := by omega
      subst hff
      unfold OffE
      rcases hc with ⟨c, rfl, rfl⟩ | ⟨c, L', rfl, h'⟩
      · exact ⟨fun z => hf rfl z.symm, hy, fun z => absurd z (by omega)⟩
      · exact ⟨fun z => hf rfl z.symm, by omega, fun _ => ih true _ E L' (by omega) (by omega) h' hy (by simp)⟩
theorem pl_up {x : Int} (h : x < n) : pl n x = x := by unfold pl; rw [if_pos h]
theorem pl_dn {x : Int} (h : n ≤ x) : pl n x = 3 * n - 1 - x := by unfold pl; rw [if_neg (by omega)]
theorem ib_one {a b : Int} (h : a < b) : ib (a < b) = 1 := if_pos h
theorem ib_no {a b : Int} (h : b ≤ a) : ib (a < b) = 0 := if_neg (by omega)
theorem cD_out (hd : Mt n d) (he : Mt n e) {x : Int} (hx : x ≤ n) (k : Nat) : ∀ (up : Bool) (i E : Int) (L : List Int), 0 ≤ i → i < 2 * n → fol n d e k up i = some (E, L) → cD n d e k up i x = (if up = true then ib (pl n i < x) else 0) + (if E < n then ib (pl n E < x) else 0) := by
  induction k with
  | zero => intro up i E L _ _ h; simp [fol] at h
  | succ k ih =>
    intro up i E L i0 i2 h
    cases up with
    | true =>
      have b := hd.lt i i0 i2
      obtain ⟨f, hff, hc⟩ := fol_t h
      have hff : k = f := by omega
      subst hff
      unfold cD
      rcases hc with ⟨c, rfl, rfl⟩ | ⟨c, L', rfl, h'⟩
      · rw [if_pos c, if_pos c, if_pos rfl]; omega
      · have := ih false (d i - n) E L' (by omega) (by omega) h'
        rw [if_neg (by simp)] at this
        rw [if_neg (by omega), this, if_pos rfl, pl_dn c, ib_no (show x ≤ 3 * n - 1 - d i by omega)]; omega
    | false =>
      have b := he.lt i i0 i2
      obtain ⟨f, hff, hc⟩ := fol_f h
      have hff : k = f := by omega
      subst hff
      unfold cD
      rcases hc with ⟨c, rfl, rfl⟩ | ⟨c, L', rfl, h'⟩
      · rw [if_pos c, if_neg (by simp), if_neg (by omega)]; rfl
      · have := ih true (n + e i) E L' (by omega) (by omega) h'
        rw [if_pos rfl, pl_dn (show n ≤ n + e i by omega), ib_no (show x ≤ 3 * n - 1 - (n + e i) by omega)] at this
        rw [if_neg (by omega), this, if_neg (show ¬ (false = true) by simp)]
theorem cE_out (hd : Mt n d) (he : Mt n e) {x : Int} (hx : n ≤ x) (k : Nat) : ∀ (up : Bool) (i E : Int) (L : List Int), 0 ≤ i → i < 2 * n → fol n d e k up i = some (E, L) → cE n d e k up i x = L.length + (if up = true then 0 else ib (pl n i < x)) + (if E < n then 0 else ib (pl n E < x)) := by
  induction k with
  | zero => intro up i E L _ _ h; simp [fol] at h
  | succ k ih =>
    intro up i E L i0 i2 h
    cases up with
    | true =>
      have b := hd.lt i i0 i2
      obtain ⟨f, hff, hc⟩ := fol_t h
      have hff : k = f := by omega
      subst hff
      unfold cE
      rcases hc with ⟨c, rfl, rfl⟩ | ⟨c, L', rfl, h'⟩
      · rw [if_pos c, if_pos c, if_pos rfl]; simp
      · have := ih false (d i - n) E L' (by omega) (by omega) h'
        rw [if_neg (by simp), pl_up (show d i - n < n by omega), ib_one (show d i - n < x by omega)] at this
        rw [if_neg (by omega), this, if_pos rfl]; simp only [List.length_cons]; omega
    | false =>
      have b := he.lt i i0 i2
      obtain ⟨f, hff, hc⟩ := fol_f h
      have hff : k = f := by omega
      subst hff
      unfold cE
      rcases hc with ⟨c, rfl, rfl⟩ | ⟨c, L', rfl, h'⟩
      · rw [if_pos c, if_neg (by simp), if_neg (by omega)]; simp
      · have := ih true (n + e i) E L' (by omega) (by omega) h'
        rw [if_pos rfl] at this
        rw [if_neg (by omega), this, if_neg (show ¬ (false = true) by simp), pl_up c, ib_one (show e i < x by omega)]; simp only [List.length_cons]; omega
/-- The colour of a state beside the line from p. -/
def kap (n : Int) (d e : Int → Int) (p : Int) : Bool → Int → Int
  | true, i => cD n d e 17 (decide (p < n)) p (pl n i)
  | false, i => cE n d e 17 (decide (p < n)) p (pl n i) + (lP n d e p).length + ib (eP n d e p < n) + ib (p < n)
theorem kap_t (p i : Int) : kap n d e p true i = cD n d e 17 (decide (p < n)) p (pl n i) := rfl
theorem kap_f (p i : Int) : kap n d e p false i = cE n d e 17 (decide (p < n)) p (pl n i) + (lP n d e p).length + ib (eP n d e p < n) + ib (p < n) := rfl
theorem kap_par (hd : Mt n d) (he : Mt n e) (nd : NC n d) (ne : NC n e) (h1 : 1 ≤ n) (h8 : n ≤ 8) {p : Int} (h0 : 0 ≤ p) (h2 : p < 2 * n) (k : Nat) : ∀ (up : Bool) (i F : Int) (M : List Int), 0 ≤ i → i < 2 * n → fol n d e k up i = some (F, M) → (∀ y ∈ M, y ∉ lP n d e p) → (up = true → OffD n d e 17 (decide (p < n)) p i) → (up = false → OffE n d e 17 (decide (p < n)) p i) →
    (kap n d e p up i - kap n d e p (decide (F < n)) F) % 2 = 0 := by
  have hp := fol_p hd he h1 h8 h0 h2
  have mid : ∀ y, 0 ≤ y → y < n → y ∉ lP n d e p → (kap n d e p true (n + y) - kap n d e p false y) % 2 = 0 := by
    intro y y0 y2 hy
    have := mid_par hd he y0 y2 17 _ p _ _ h0 h2 hp hy (fun c h => by simp at c; omega) (fun c h => by simp at c; omega)
    rw [kap_t, kap_f, pl_dn (show n ≤ n + y by omega), pl_up y2, show 3 * n - 1 - (n + y) = 2 * n - 1 - y by omega]
    by_cases c : p < n
    · rw [if_pos (by simp [c]), if_pos c] at this
      rw [show ib (p < n) = 1 from if_pos c]; omega
    · rw [if_neg (by simp; omega), if_pos (by omega)] at this
      rw [show ib (p < n) = 0 from if_neg c]; omega
  induction k with
  | zero => intro up i E L _ _ h; simp [fol] at h
  | succ k ih =>
    intro up i F M i0 i2 h hM ht hf
    cases up with
    | true =>
      have b := hd.lt i i0 i2
      obtain ⟨f, hff, hc⟩ := fol_t h
      have hff : k = f := by omega
      subst hff
      have x : (kap n d e p true i - kap n d e p true (d i)) % 2 = 0 := cD_par hd he nd i0 i2 17 _ p h0 h2 (ht rfl)
      rcases hc with ⟨c, rfl, rfl⟩ | ⟨c, L', rfl, h'⟩
      · rw [show decide (d i < n) = true by simp [c]]; exact x
      · have hy := hM (d i - n) (by simp)
        have m := mid (d i - n) (by omega) (by omega) hy
        rw [show n + (d i - n) = d i by omega] at m
        have := ih false (d i - n) F L' (by omega) (by omega) h' (fun y hy => hM y (by simp [hy])) (by simp) (fun _ => offE_mid hd he (by omega) 17 _ p _ _ h0 h2 hp hy (fun c h => by simp at c; omega))
        omega
    | false =>
      have b := he.lt i i0 i2
      obtain ⟨f, hff, hc⟩ := fol_f h
      have hff : k = f := by omega
      subst hff
      have x0 := cE_par hd he ne i0 i2 17 _ p h0 h2 (hf rfl)
      have x : (kap n d e p false i - kap n d e p false (e i)) % 2 = 0 := by rw [kap_f, kap_f]; omega
      rcases hc with ⟨c, rfl, rfl⟩ | ⟨c, L', rfl, h'⟩
      · rw [show decide (e i < n) = false by simp [c]]; exact x
      · have hy := hM (e i) (by simp)
        have m := mid (e i) (by omega) (by omega) hy
        have := ih true (n + e i) F L' (by omega) (by omega) h' (fun y hy => hM y (by simp [hy])) (fun _ => offD_mid hd he (by omega) 17 _ p _ _ h0 h2 hp hy (fun c h => by simp at c; omega)) (by simp)
        omega
theorem kap_out (hd : Mt n d) (he : Mt n e) (h1 : 1 ≤ n) (h8 : n ≤ 8) {p q : Int} (h0 : 0 ≤ p) (h2 : p < 2 * n) (k0 : 0 ≤ q) (k2 : q < 2 * n) :
    (kap n d e p (decide (q < n)) q - ib (pl n p < pl n q) - ib (pl n (eP n d e p) < pl n q)) % 2 = 0 := by
  have hp := fol_p hd he h1 h8 h0 h2
  have b := (p_bd hd he h1 h8 h0 h2).1
  by_cases c : q < n
  · rw [show decide (q < n) = true by simp [c]]
    rw [kap_t, cD_out hd he (by rw [pl_up c]; omega) 17 _ p _ _ h0 h2 hp]
    by_cases c1 : p < n <;> by_cases c2 : eP n d e p < n
    · rw [if_pos (by simp [c1]), if_pos c2]; omega
    · rw [if_pos (by simp [c1]), if_neg c2, pl_up c, ib_no (show q ≤ pl n (eP n d e p) by rw [pl_dn (by omega)]; omega)]; omega
    · rw [if_neg (by simp; omega), if_pos c2, pl_up c, ib_no (show q ≤ pl n p by rw [pl_dn (by omega)]; omega)]; omega
    · rw [if_neg (by simp; omega), if_neg c2, pl_up c, ib_no (show q ≤ pl n p by rw [pl_dn (by omega)]; omega), ib_no (show q ≤ pl n (eP n d e p) by rw [pl_dn (by omega)]; omega)]; rfl
  · rw [show decide (q < n) = false by simp; omega]
    have hq : n ≤ pl n q := by rw [pl_dn (by omega)]; omega
    rw [kap_f, cE_out hd he hq 17 _ p _ _ h0 h2 hp]
    by_cases c1 : p < n <;> by_cases c2 : eP n d e p < n
    · rw [if_pos (by simp [c1]), if_pos c2, show ib (p < n) = 1 from if_pos c1, show ib (eP n d e p < n) = 1 from if_pos c2, ib_one (show pl n p < pl n q by rw [pl_up c1]; omega), ib_one (show pl n (eP n d e p) < pl n q by rw [pl_up c2]; omega)]; omega
    · rw [if_pos (by simp [c1]), if_neg c2, show ib (p < n) = 1 from if_pos c1, show ib (eP n d e p < n) = 0 from if_neg c2, ib_one (show pl n p < pl n q by rw [pl_up c1]; omega)]; omega
    · rw [if_neg (by simp; omega), if_pos c2, show ib (p < n) = 0 from if_neg c1, show ib (eP n d e p < n) = 1 from if_pos c2, ib_one (show pl n (eP n d e p) < pl n q by rw [pl_up c2]; omega)]; omega
    · rw [if_neg (by simp; omega), if_neg c2, show ib (p < n) = 0 from if_neg c1, show ib (eP n d e p < n) = 0 from if_neg c2]; omega
/-- Lines of the product do not cross. -/
theorem prod_nc (hd : Mt n d) (he : Mt n e) (nd : NC n d) (ne : NC n e) (h1 : 1 ≤ n) (h8 : n ≤ 8) : NC n (eP n d e) := by
  intro p q h0 h2 k0 k2 ⟨a, b, c⟩
  have hp := fol_p hd he h1 h8 h0 h2
  have hq := fol_p hd he h1 h8 k0 k2
  have bq := (p_bd hd he h1 h8 k0 k2).1
  have e1 : q ≠ p := fun h => by rw [h] at a; omega
  have e2 : q ≠ eP n d e p := fun h => by rw [h] at b; omega
  have x := kap_par hd he nd ne h1 h8 h0 h2 17 _ q _ _ k0 k2 hq (fun y hy hy' => by
    rcases lP_meet hd he h1 h8 h0 h2 k0 k2 hy' hy with h | h
    · exact e1 h
    · exact e2 h) (fun c => offD_out hd he (by simpa using c) 17 _ p _ _ h0 h2 hp e2 (fun _ h => e1 h.symm)) (fun c => offE_out hd he (by simp at c; omega) 17 _ p _ _ h0 h2 hp e2 (fun _ h => e1 h.symm))
  have y1 := kap_out hd he h1 h8 h0 h2 k0 k2
  have y2 := kap_out hd he h1 h8 h0 h2 bq.1 bq.2
  rw [ib_one a, ib_no (show pl n q ≤ pl n (eP n d e p) by omega)] at y1
  rw [ib_one (show pl n p < pl n (eP n d e q) by omega), ib_one c] at y2
  omega
/-- The places at the ends of a line are of different parity. -/
theorem even_iv (hd : Mt n d) (hn : NC n d) (m : Nat) : ∀ s t : Int, 0 ≤ s → t ≤ 2 * n → t - s = m → (∀ x, 0 ≤ x → x < 2 * n → s ≤ pl n x → pl n x < t → s ≤ pl n (d x) ∧ pl n (d x) < t) → (t - s) % 2 = 0 := by
  induction m using Nat.strongRecOn with
  | _ m ih =>
    intro s t s0 t2 hm hc
    by_cases c : s < t
    · -- the point with the place s
      obtain ⟨a, a0, a2, ha⟩ : ∃ a, 0 ≤ a ∧ a < 2 * n ∧ pl n a = s := by
        by_cases c1 : s < n
        · exact ⟨s, s0, by omega, pl_up c1⟩
        · exact ⟨3 * n - 1 - s, by omega, by omega, by rw [pl_dn (by omega)]; omega⟩
      have ab := hd.lt a a0 a2
      have ai := hd.inv a a0 a2
      have hb := hc a a0 a2 (by omega) (by omega)
      have n6 : pl n (d a) ≠ pl n a := fun h => hd.ne a a0 a2 (pl_inj ab.1 ab.2 a0 a2 h)
      have i1 := ih (pl n (d a) - (s + 1)).toNat (by omega) (s + 1) (pl n (d a)) (by omega) (by omega) (by omega) (by
        intro x x0 x2 y1 y2
        have xb := hd.lt x x0 x2
        have xi := hd.inv x x0 x2
        have z := hc x x0 x2 (by omega) (by omega)
        have w1 := hn a x a0 a2 x0 x2
        have p1 : pl n (d x) ≠ pl n a := fun h => by have := pl_inj xb.1 xb.2 a0 a2 h; rw [← this, xi] at y2; omega
        have p2 : pl n (d x) ≠ pl n (d a) := fun h => by have h2 := pl_inj xb.1 xb.2 ab.1 ab.2 h; have h3 : d (d x) = d (d a) := by rw [h2]
                                                         rw [xi, ai] at h3; rw [h3] at y1; omega
        refine ⟨by omega, Decidable.byContradiction fun h => w1 ⟨by omega, y2, by omega⟩⟩)
      have i2 := ih (t - (pl n (d a) + 1)).toNat (by omega) (pl n (d a) + 1) t (by omega) (by omega) (by omega) (by
        intro x x0 x2 y1 y2
        have xb := hd.lt x x0 x2
        have xi := hd.inv x x0 x2
        have z := hc x x0 x2 (by omega) (by omega)
        have w1 := hn a (d x) a0 a2 xb.1 xb.2
        rw [xi] at w1
        have p1 : pl n (d x) ≠ pl n a := fun h => by have := pl_inj xb.1 xb.2 a0 a2 h; rw [← this, xi] at y1; omega
        have p2 : pl n (d x) ≠ pl n (d a) := fun h => by have h2 := pl_inj xb.1 xb.2 ab.1 ab.2 h; have h3 : d (d x) = d (d a) := by rw [h2]
                                                         rw [xi, ai] at h3; rw [h3] at y1; omega
        refine ⟨Decidable.byContradiction fun h => w1 ⟨by omega, by omega, by omega⟩, z.2⟩)
      omega
    · by_cases c2 : t = s
      · omega
      · omega
theorem odd_mate (hd : Mt n d) (hn : NC n d) {a : Int} (a0 : 0 ≤ a) (a2 : a < 2 * n) : (pl n a + pl n (d a)) % 2 = 1 := by
  have key : ∀ a, 0 ≤ a → a < 2 * n → pl n a < pl n (d a) → (pl n a + pl n (d a)) % 2 = 1 := by
    intro a a0 a2 h
    have ab := hd.lt a a0 a2
    have ai := hd.inv a a0 a2
    have b1 := pl_lt n a a0 a2
    have b2 := pl_lt n (d a) ab.1 ab.2
    have := even_iv hd hn (pl n (d a) - (pl n a + 1)).toNat (pl n a + 1) (pl n (d a)) (by omega) (by omega) (by omega) (by
      intro x x0 x2 y1 y2
      have xb := hd.lt x x0 x2
      have xi := hd.inv x x0 x2
      have w1 := hn a x a0 a2 x0 x2
      have w2 := hn (d x) (d a) xb.1 xb.2 ab.1 ab.2
      have w3 := hn (d x) a xb.1 xb.2 a0 a2
      rw [xi] at w2 w3
      have p1 : pl n (d x) ≠ pl n a := fun h => by have := pl_inj xb.1 xb.2 a0 a2 h; rw [← this, xi] at y2; omega
      have p2 : pl n (d x) ≠ pl n (d a) := fun h => by have h2 := pl_inj xb.1 xb.2 ab.1 ab.2 h; have h3 : d (d x) = d (d a) := by rw [h2]
                                                       rw [xi, ai] at h3; rw [h3] at y1; omega
      exact ⟨Decidable.byContradiction fun h => w3 ⟨by omega, by omega, y2⟩, Decidable.byContradiction fun h => w1 ⟨by omega, y2, by omega⟩⟩)
    omega
  have ab := hd.lt a a0 a2
  have ai := hd.inv a a0 a2
  have n6 : pl n (d a) ≠ pl n a := fun h => hd.ne a a0 a2 (pl_inj ab.1 ab.2 a0 a2 h)
  by_cases h : pl n a < pl n (d a)
  · exact key a a0 a2 h
  · have := key (d a) ab.1 ab.2 (by rw [ai]; omega)
    rw [ai] at this; omega
theorem fol_odd (hd : Mt n d) (he : Mt n e) (nd : NC n d) (ne : NC n e) (k : Nat) : ∀ (up : Bool) (i E : Int) (L : List Int), 0 ≤ i → i < 2 * n → fol n d e k up i = some (E, L) → (pl n i + pl n E) % 2 = 1 := by
  induction k with
  | zero => intro up i E L _ _ h; simp [fol] at h
  | succ k ih =>
    intro up i E L i0 i2 h
    cases up with
    | true =>
      have b := hd.lt i i0 i2
      have o := odd_mate hd nd i0 i2
      obtain ⟨f, hff, hc⟩ := fol_t h
      have hff : k = f := by omega
      subst hff
      rcases hc with ⟨c, rfl, rfl⟩ | ⟨c, L', rfl, h'⟩
      · exact o
      · have := ih false (d i - n) E L' (by omega) (by omega) h'
        rw [pl_up (show d i - n < n by omega)] at this
        rw [pl_dn c] at o
        omega
    | false =>
      have b := he.lt i i0 i2
      have o := odd_mate he ne i0 i2
      obtain ⟨f, hff, hc⟩ := fol_f h
      have hff : k = f := by omega
      subst hff
      rcases hc with ⟨c, rfl, rfl⟩ | ⟨c, L', rfl, h'⟩
      · exact o
      · have := ih true (n + e i) E L' (by omega) (by omega) h'
        rw [pl_dn (show n ≤ n + e i by omega)] at this
        rw [pl_up c] at o
        omega
theorem prod_mt (hd : Mt n d) (he : Mt n e) (nd : NC n d) (ne : NC n e) (h1 : 1 ≤ n) (h8 : n ≤ 8) : Mt n (eP n d e) where
  lt := fun p h0 h2 => (p_bd hd he h1 h8 h0 h2).1
  inv := fun p h0 h2 => eP_inv hd he h1 h8 h0 h2
  ne := fun p h0 h2 h => by
    have := fol_odd hd he nd ne 17 _ p _ _ h0 h2 (fol_p hd he h1 h8 h0 h2)
    rw [h] at this; omega
theorem nc_of {ms : List Int} (hb : Bytes ms) (hs : IsS n ms) : NC n (mate ms) := by
  intro a u a0 a2 u0 u2 ⟨x, y, z⟩
  have ha := mate_lt hb hs a a0 a2
  have := hs.2.2 a.toNat u.toNat (by omega) (by omega)
  rw [show ((a.toNat : Nat) : Int) = a by omega, show ((u.toNat : Nat) : Int) = u by omega] at this
  unfold Cross lo hi at this
  omega
theorem prodL_get (h8 : n ≤ 8) (j : Nat) : (prodL n d e).getD j 0 = if (j : Int) < 2 * n then eP n d e j else 0 := by
  unfold prodL
  by_cases h : 0 ≤ n
  · rw [prI_get h8 _ (by omega)]
    by_cases c : (j : Int) < 2 * n
    · rw [if_pos c, if_pos (by omega)]
    · rw [if_neg c, if_neg (by omega)]
  · rw [show (2 * n).toNat = 0 by omega, if_neg (by omega)]; exact zeros_get j
theorem prod_mate (h8 : n ≤ 8) {p : Int} (h0 : 0 ≤ p) (h2 : p < 2 * n) : mate (prodL n d e) p = eP n d e p := by
  unfold mate
  rw [prodL_get h8, show ((p.toNat : Nat) : Int) = p by omega, if_pos h2]
/-- The product of two diagrams is a diagram. -/
theorem prod_bytes (hd : Mt n d) (he : Mt n e) (h1 : 1 ≤ n) (h8 : n ≤ 8) : Bytes (prodL n d e) := by
  intro x hx
  obtain ⟨j, hj, rfl⟩ := List.getElem_of_mem hx
  have g : (prodL n d e).getD j 0 = (prodL n d e)[j] := by rw [List.getD_eq_getElem?_getD, List.getElem?_eq_getElem hj]; rfl
  rw [← g, prodL_get h8]
  split
  · rename_i c
    have := (p_bd hd he h1 h8 (p := (j : Int)) (by omega) c).1; omega
  · omega
theorem prod_isS (hd : Mt n d) (he : Mt n e) (nd : NC n d) (ne : NC n e) (h1 : 1 ≤ n) (h8 : n ≤ 8) : IsS n (prodL n d e) := by
  have M := prod_mt hd he nd ne h1 h8
  have C := prod_nc hd he nd ne h1 h8
  refine ⟨⟨h1, h8⟩, fun i gi => ?_, fun i k gi gk => ?_⟩
  · unfold OkAt
    by_cases c : 2 * n ≤ (i : Int)
    · rw [if_pos c]
      unfold mate
      rw [Int.toNat_natCast, prodL_get h8, if_neg (by omega)]
    · rw [if_neg c, prod_mate h8 (by omega) (by omega)]
      have b := M.lt i (by omega) (by omega)
      rw [prod_mate h8 b.1 b.2]
      exact ⟨b.2, M.ne i (by omega) (by omega), M.inv i (by omega) (by omega)⟩
  · unfold Cross lo hi
    rw [prod_mate h8 (by omega) gi, prod_mate h8 (by omega) gk]
    have bi := M.lt i (by omega) gi
    have bk := M.lt k (by omega) gk
    have ii := M.inv i (by omega) gi
    have ik := M.inv k (by omega) gk
    have c1 := C i k (by omega) gi (by omega) gk
    have c2 := C i (eP n d e k) (by omega) gi bk.1 bk.2
    have c3 := C (eP n d e i) k bi.1 bi.2 (by omega) gk
    have c4 := C (eP n d e i) (eP n d e k) bi.1 bi.2 bk.1 bk.2
    rw [ik] at c2 c4
    rw [ii] at c3 c4
    omega
end
end Go.Proofs.Ytbibmncepjmgcaa
