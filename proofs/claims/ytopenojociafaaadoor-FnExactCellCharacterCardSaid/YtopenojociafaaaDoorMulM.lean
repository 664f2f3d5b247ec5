/- Plain mathematics of products: lines come to an end, what is not met by them falls into loops, and a loop is the same from both sides. -/
import Derived.Test.YtopenojociafaaaDoorMates
namespace Go.Proofs.YtopenojociafaaaDoor
theorem cntle (mb : List Bool) (i : Nat) : (mb.set i true).count false ≤ mb.count false := by
  induction mb generalizing i with
  | nil => simp
  | cons b mb ih =>
    cases i with
    | zero => cases b <;> simp
    | succ i => have := ih i; cases b <;> simp_all
theorem cntlt (mb : List Bool) (i : Nat) (h : mb.getD i true = false) : (mb.set i true).count false + 1 = mb.count false := by
  induction mb generalizing i with
  | nil => simp at h
  | cons b mb ih =>
    cases i with
    | zero => simp at h; subst h; simp
    | succ i => have := ih i (by simpa using h); cases b <;> simp_all
theorem bset_get (mb : List Bool) (j : Nat) (hj : j < mb.length) (i : Nat) : (mb.set j true).getD i true = if i = j then true else mb.getD i true := by
  rw [List.getD_eq_getElem?_getD, List.getD_eq_getElem?_getD, List.getElem?_set]
  by_cases e : j = i
  · subst e; simp [hj]
  · rw [if_neg e, if_neg (fun h => e h.symm)]
/-- A mating of the points 0 to 2 n - 1. -/
structure Mt (n : Int) (d : Int → Int) : Prop where
  lt : ∀ p, 0 ≤ p → p < 2 * n → 0 ≤ d p ∧ d p < 2 * n
  inv : ∀ p, 0 ≤ p → p < 2 * n → d (d p) = p
  ne : ∀ p, 0 ≤ p → p < 2 * n → d p ≠ p
theorem mt_of {n : Int} {ms : List Int} (hb : Bytes ms) (hd : IsS n ms) : Mt n (mate ms) where
  lt := fun p h0 h2 => mate_lt hb hd p h0 h2
  inv := fun p h0 h2 => mate_inv hd p h0 h2
  ne := fun p h0 h2 => by
    have hn := hd.1
    have h := hd.2.1 p.toNat (by omega)
    rw [show ((p.toNat : Nat) : Int) = p by omega] at h
    unfold OkAt at h
    rw [if_neg (by omega)] at h
    exact h.2.1
section
variable {n : Int} {d e : Int → Int}
/-- Along a line of the product, from a point on: to its end, and which middle points are met. -/
def fol (n : Int) (d e : Int → Int) : Nat → Bool → Int → Option (Int × List Int)
  | 0, _, _ => none
  | k + 1, true, i => if d i < n then some (d i, []) else (fol n d e k false (d i - n)).map fun r => (r.1, (d i - n) :: r.2)
  | k + 1, false, i => if n ≤ e i then some (e i, []) else (fol n d e k true (n + e i)).map fun r => (r.1, e i :: r.2)
theorem fol_mono (k : Nat) : ∀ (up : Bool) (i : Int) (r : Int × List Int), fol n d e k up i = some r → fol n d e (k + 1) up i = some r := by
  induction k with
  | zero => intro up i r h; simp [fol] at h
  | succ k ih =>
    intro up i r h
    cases up with
    | true =>
      unfold fol at h ⊢
      split at h
      · rename_i hc; rw [if_pos hc]; exact h
      · rename_i hc
        rw [if_neg hc]
        cases hf : fol n d e k false (d i - n) with
        | none => rw [hf] at h; simp at h
        | some q => rw [ih _ _ _ hf]; rw [hf] at h; exact h
    | false =>
      unfold fol at h ⊢
      split at h
      · rename_i hc; rw [if_pos hc]; exact h
      · rename_i hc
        rw [if_neg hc]
        cases hf : fol n d e k true (n + e i) with
        | none => rw [hf] at h; simp at h
        | some q => rw [ih _ _ _ hf]; rw [hf] at h; exact h
theorem fol_le {k k' : Nat} (h : k ≤ k') {up : Bool} {i : Int} {r : Int × List Int} (hf : fol n d e k up i = some r) : fol n d e k' up i = some r := by
  induction h with
  | refl => exact hf
  | step _ ih => exact fol_mono _ _ _ _ ih
theorem fol_bd (hd : Mt n d) (he : Mt n e) (k : Nat) : ∀ (up : Bool) (i : Int) (E : Int) (L : List Int), 0 ≤ i → i < 2 * n → fol n d e k up i = some (E, L) → (0 ≤ E ∧ E < 2 * n) ∧ ∀ x ∈ L, 0 ≤ x ∧ x < n := by
  induction k with
  | zero => intro up i E L _ _ h; simp [fol] at h
  | succ k ih =>
    intro up i E L h0 h2 h
    cases up with
    | true =>
      have b := hd.lt i h0 h2
      unfold fol at h
      split at h
      · simp at h; obtain ⟨rfl, rfl⟩ := h; exact ⟨b, by simp⟩
      · cases hf : fol n d e k false (d i - n) with
        | none => rw [hf] at h; simp at h
        | some q =>
          rw [hf] at h; simp at h; obtain ⟨rfl, rfl⟩ := h
          have := ih false (d i - n) q.1 q.2 (by omega) (by omega) hf
          refine ⟨this.1, fun x hx => ?_⟩
          rcases List.mem_cons.1 hx with rfl | hx
          · omega
          · exact this.2 x hx
    | false =>
      have b := he.lt i h0 h2
      unfold fol at h
      split at h
      · simp at h; obtain ⟨rfl, rfl⟩ := h; exact ⟨b, by simp⟩
      · cases hf : fol n d e k true (n + e i) with
        | none => rw [hf] at h; simp at h
        | some q =>
          rw [hf] at h; simp at h; obtain ⟨rfl, rfl⟩ := h
          have := ih true (n + e i) q.1 q.2 (by omega) (by omega) hf
          refine ⟨this.1, fun x hx => ?_⟩
          rcases List.mem_cons.1 hx with rfl | hx
          · omega
          · exact this.2 x hx
/-- From a middle point on: whether the line goes on to another middle point, and to which. -/
def stays (n : Int) (d e : Int → Int) (p : Int) : Prop := if n ≤ p then n ≤ d p else e p < n
def gnext (n : Int) (d e : Int → Int) (p : Int) : Int := if n ≤ p then d p - n else n + e p
theorem gnext_bd (hd : Mt n d) (he : Mt n e) (p : Int) (h0 : 0 ≤ p) (h2 : p < 2 * n) (hs : stays n d e p) : 0 ≤ gnext n d e p ∧ gnext n d e p < 2 * n ∧ (gnext n d e p < n ↔ n ≤ p) := by
  have b1 := hd.lt p h0 h2
  have b2 := he.lt p h0 h2
  unfold stays at hs
  unfold gnext
  split at hs <;> rename_i hc
  · rw [if_pos hc]; omega
  · rw [if_neg hc]; omega
theorem gnext_inj (hd : Mt n d) (he : Mt n e) (p q : Int) (hp0 : 0 ≤ p) (hp2 : p < 2 * n) (hq0 : 0 ≤ q) (hq2 : q < 2 * n) (hp : stays n d e p) (hq : stays n d e q) (h : gnext n d e p = gnext n d e q) : p = q := by
  have bp := gnext_bd hd he p hp0 hp2 hp
  have bq := gnext_bd hd he q hq0 hq2 hq
  by_cases c : n ≤ p
  · have c' : n ≤ q := by rw [h] at bp; exact bq.2.2.1 (bp.2.2.2 c)
    unfold gnext at h
    rw [if_pos c, if_pos c'] at h
    rw [← hd.inv p hp0 hp2, show d p = d q by omega, hd.inv q hq0 hq2]
  · have c' : ¬ n ≤ q := fun x => c (by rw [← h] at bq; exact bp.2.2.1 (bq.2.2.2 x))
    unfold gnext at h
    rw [if_neg c, if_neg c'] at h
    rw [← he.inv p hp0 hp2, show e p = e q by omega, he.inv q hq0 hq2]
theorem fol_stays (k : Nat) (p : Int) (hs : stays n d e p) (x : n ≤ gnext n d e p ↔ ¬ n ≤ p) : fol n d e (k + 1) (decide (n ≤ p)) p = (fol n d e k (decide (n ≤ gnext n d e p)) (gnext n d e p)).map fun r => (r.1, (if n ≤ p then d p - n else e p) :: r.2) := by
  unfold stays at hs
  by_cases c : n ≤ p
  · rw [if_pos c] at hs
    have hg : gnext n d e p = d p - n := by unfold gnext; rw [if_pos c]
    rw [show decide (n ≤ gnext n d e p) = false by simp [x, c], show decide (n ≤ p) = true by simp [c], hg]
    rw [fol, if_neg (by omega), if_pos c]
  · rw [if_neg c] at hs
    have hg : gnext n d e p = n + e p := by unfold gnext; rw [if_neg c]
    rw [show decide (n ≤ gnext n d e p) = true by simp [x, c], show decide (n ≤ p) = false by simp [c], hg]
    rw [fol, if_neg (by omega), if_neg c]
theorem fol_mid (hd : Mt n d) (he : Mt n e) (h8 : n ≤ 8) (s : Int) (hs : ∀ u, 0 ≤ u → u < 2 * n → stays n d e u → gnext n d e u ≠ s) (c : Nat) : ∀ (vis : List Bool) (p : Int), vis.length = 16 → vis.count false ≤ c → 0 ≤ p → p < 2 * n → vis.getD p.toNat true = false →
    (∀ q, 0 ≤ q → q < 2 * n → (vis.getD q.toNat true = true ∨ q = p) → q ≠ s → ∃ u, 0 ≤ u ∧ u < 2 * n ∧ vis.getD u.toNat true = true ∧ stays n d e u ∧ gnext n d e u = q) →
    ∃ r, fol n d e c (decide (n ≤ p)) p = some r := by
  induction c with
  | zero =>
    intro vis p hl hc h0 h2 hv _
    have := cntlt vis p.toNat hv
    omega
  | succ c ih =>
    intro vis p hl hc h0 h2 hv hpre
    by_cases st : stays n d e p
    · have gb := gnext_bd hd he p h0 h2 st
      have hnew : vis.getD (gnext n d e p).toNat true = false ∧ gnext n d e p ≠ p := by
        rw [← Bool.not_eq_true]
        refine ⟨fun hx => ?_, fun hx => ?_⟩
        · obtain ⟨u, u0, u2, uv, us, ug⟩ := hpre _ gb.1 gb.2.1 (.inl hx) (hs p h0 h2 st)
          rw [gnext_inj hd he u p u0 u2 h0 h2 us st ug, hv] at uv
          cases uv
        · rw [hx] at gb; omega
      obtain ⟨r, hr⟩ := ih (vis.set p.toNat true) (gnext n d e p) (by simp [hl]) (by have := cntlt vis p.toNat hv; omega) gb.1 gb.2.1
        (by rw [bset_get _ _ (by omega), if_neg (by omega)]; exact hnew.1) (by
          intro q q0 q2 hq qs
          by_cases e1 : q = gnext n d e p
          · exact ⟨p, h0, h2, by rw [bset_get _ _ (by omega), if_pos rfl], st, e1.symm⟩
          · have : vis.getD q.toNat true = true ∨ q = p := by
              rcases hq with hq | hq
              · rw [bset_get _ _ (by omega)] at hq
                split at hq
                · right; omega
                · exact .inl hq
              · exact absurd hq e1
            obtain ⟨u, u0, u2, uv, us, ug⟩ := hpre q q0 q2 this qs
            exact ⟨u, u0, u2, by rw [bset_get _ _ (by omega)]; split <;> simp_all, us, ug⟩)
      exact ⟨_, by rw [fol_stays c p st (by omega), hr]; rfl⟩
    · unfold stays at st
      by_cases c1 : n ≤ p
      · rw [if_pos c1] at st
        exact ⟨(d p, []), by rw [show decide (n ≤ p) = true by simp [c1], fol, if_pos (by omega)]⟩
      · rw [if_neg c1] at st
        exact ⟨(e p, []), by rw [show decide (n ≤ p) = false by simp [c1], fol, if_pos (by omega)]⟩
/-- Where lines begin. -/
def Outer (n : Int) (up : Bool) (i : Int) : Prop := if up = true then 0 ≤ i ∧ i < n else n ≤ i ∧ i < 2 * n
theorem fol_outer (hd : Mt n d) (he : Mt n e) (h1 : 1 ≤ n) (h8 : n ≤ 8) (up : Bool) (i : Int) (ho : Outer n up i) : ∃ r, fol n d e 17 up i = some r := by
  have hvis : ∀ q : Int, 0 ≤ q → q < 2 * n → (List.replicate 16 false).getD q.toNat true = false := by
    intro q q0 q2
    rw [List.getD_eq_getElem?_getD, List.getElem?_replicate, if_pos (by omega)]
    rfl
  cases up with
  | true =>
    have ho : 0 ≤ i ∧ i < n := ho
    have b := hd.lt i ho.1 (by omega)
    by_cases c : d i < n
    · exact ⟨(d i, []), by rw [fol, if_pos c]⟩
    · obtain ⟨r, hr⟩ := fol_mid hd he h8 (d i - n) (fun u u0 u2 us ug => by
          have gb := gnext_bd hd he u u0 u2 us
          have cu : n ≤ u := gb.2.2.1 (by omega)
          unfold gnext at ug
          rw [if_pos cu] at ug
          have := hd.inv u u0 u2
          rw [show d u = d i by omega, hd.inv i ho.1 (by omega)] at this
          omega) 16 (List.replicate 16 false) (d i - n) (by simp) (by simp) (by omega) (by omega) (hvis _ (by omega) (by omega)) (by
          intro q q0 q2 hq qs
          rcases hq with hq | hq
          · rw [hvis q q0 q2] at hq; cases hq
          · exact absurd hq qs)
      rw [show decide (n ≤ d i - n) = false by simp; omega] at hr
      exact ⟨_, by rw [fol, if_neg c, hr]; rfl⟩
  | false =>
    have ho : n ≤ i ∧ i < 2 * n := ho
    have b := he.lt i (by omega) ho.2
    by_cases c : n ≤ e i
    · exact ⟨(e i, []), by rw [fol, if_pos c]⟩
    · obtain ⟨r, hr⟩ := fol_mid hd he h8 (n + e i) (fun u u0 u2 us ug => by
          have gb := gnext_bd hd he u u0 u2 us
          have cu : ¬ n ≤ u := fun x => by have := gb.2.2.2 x; omega
          unfold gnext at ug
          rw [if_neg cu] at ug
          have := he.inv u u0 u2
          rw [show e u = e i by omega, he.inv i (by omega) ho.2] at this
          omega) 16 (List.replicate 16 false) (n + e i) (by simp) (by simp) (by omega) (by omega) (hvis _ (by omega) (by omega)) (by
          intro q q0 q2 hq qs
          rcases hq with hq | hq
          · rw [hvis q q0 q2] at hq; cases hq
          · exact absurd hq qs)
      rw [show decide (n ≤ n + e i) = true by simp; omega] at hr
      exact ⟨_, by rw [fol, if_neg c, hr]; rfl⟩
/-- The end and the middle points of the line from an outer point. -/
def folR (n : Int) (d e : Int → Int) (up : Bool) (i : Int) : Int × List Int := (fol n d e 17 up i).getD (0, [])
theorem folR_eq (hd : Mt n d) (he : Mt n e) (h1 : 1 ≤ n) (h8 : n ≤ 8) (up : Bool) (i : Int) (ho : Outer n up i) : fol n d e 17 up i = some ((folR n d e up i).1, (folR n d e up i).2) := by
  obtain ⟨r, hr⟩ := fol_outer hd he h1 h8 up i ho
  unfold folR; rw [hr]; rfl
theorem outer_bd {up : Bool} {i : Int} (h1 : 1 ≤ n) (ho : Outer n up i) : 0 ≤ i ∧ i < 2 * n := by
  unfold Outer at ho
  split at ho <;> omega
/-- Behind a middle point comes, or ahead of it lies, its mate on the side of d. -/
theorem fol_a (hd : Mt n d) (he : Mt n e) (k : Nat) : ∀ (up : Bool) (i : Int) (E : Int) (L : List Int), 0 ≤ i → i < 2 * n → fol n d e k up i = some (E, L) → ∀ y ∈ L, n ≤ d (n + y) → d (n + y) - n ∈ L ∨ (up = true ∧ d (n + y) - n = i - n) := by
  induction k with
  | zero => intro up i E L _ _ h; simp [fol] at h
  | succ k ih =>
    intro up i E L h0 h2 h y hy hdy
    cases up with
    | true =>
      have b := hd.lt i h0 h2
      unfold fol at h
      split at h
      · simp at h; rw [h.2] at hy; cases hy
      · cases hf : fol n d e k false (d i - n) with
        | none => rw [hf] at h; simp at h
        | some q =>
          rw [hf] at h; simp at h; obtain ⟨rfl, rfl⟩ := h
          rcases List.mem_cons.1 hy with rfl | hy
          · right
            refine ⟨rfl, ?_⟩
            rw [show n + (d i - n) = d i by omega, hd.inv i h0 h2]
          · rcases ih false (d i - n) q.1 q.2 (by omega) (by omega) hf y hy hdy with h | h
            · exact .inl (List.mem_cons_of_mem _ h)
            · cases h.1
    | false =>
      have b := he.lt i h0 h2
      unfold fol at h
      split at h
      · simp at h; rw [h.2] at hy; cases hy
      · rename_i hc
        cases hf : fol n d e k true (n + e i) with
        | none => rw [hf] at h; simp at h
        | some q =>
          rw [hf] at h; simp at h; obtain ⟨rfl, rfl⟩ := h
          left
          rcases List.mem_cons.1 hy with rfl | hy
          · cases k with
            | zero => simp [fol] at hf
            | succ k =>
              rw [fol, if_neg (by omega)] at hf
              cases hg : fol n d e k false (d (n + e i) - n) with
              | none => rw [hg] at hf; simp at hf
              | some q2 => rw [hg] at hf; simp at hf; rw [← hf]; simp
          · rcases ih true (n + e i) q.1 q.2 (by omega) (by omega) hf y hy hdy with h | h
            · exact List.mem_cons_of_mem _ h
            · rw [h.2, show n + e i - n = e i by omega]; simp
theorem fol_b (hd : Mt n d) (he : Mt n e) (k : Nat) : ∀ (up : Bool) (i : Int) (E : Int) (L : List Int), 0 ≤ i → i < 2 * n → fol n d e k up i = some (E, L) → ∀ y ∈ L, e y < n → e y ∈ L ∨ (up = false ∧ e y = i) := by
  induction k with
  | zero => intro up i E L _ _ h; simp [fol] at h
  | succ k ih =>
    intro up i E L h0 h2 h y hy hdy
    cases up with
    | false =>
      have b := he.lt i h0 h2
      unfold fol at h
      split at h
      · simp at h; rw [h.2] at hy; cases hy
      · cases hf : fol n d e k true (n + e i) with
        | none => rw [hf] at h; simp at h
        | some q =>
          rw [hf] at h; simp at h; obtain ⟨rfl, rfl⟩ := h
          rcases List.mem_cons.1 hy with rfl | hy
          · exact .inr ⟨rfl, he.inv i h0 h2⟩
          · rcases ih true (n + e i) q.1 q.2 (by omega) (by omega) hf y hy hdy with h | h
            · exact .inl (List.mem_cons_of_mem _ h)
            · cases h.1
    | true =>
      have b := hd.lt i h0 h2
      unfold fol at h
      split at h
      · simp at h; rw [h.2] at hy; cases hy
      · rename_i hc
        cases hf : fol n d e k false (d i - n) with
        | none => rw [hf] at h; simp at h
        | some q =>
          rw [hf] at h; simp at h; obtain ⟨rfl, rfl⟩ := h
          left
          rcases List.mem_cons.1 hy with rfl | hy
          · cases k with
            | zero => simp [fol] at hf
            | succ k =>
              rw [fol, if_neg (by omega)] at hf
              cases hg : fol n d e k true (n + e (d i - n)) with
              | none => rw [hg] at hf; simp at hf
              | some q2 => rw [hg] at hf; simp at hf; rw [← hf]; simp
          · rcases ih false (d i - n) q.1 q.2 (by omega) (by omega) hf y hy hdy with h | h
            · exact List.mem_cons_of_mem _ h
            · rw [h.2]; simp
end
end Go.Proofs.YtopenojociafaaaDoor
