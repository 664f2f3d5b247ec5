/- Plain mathematics: parts that are joined, by chains of pointers and by leaders, and the parts that are left out of a product. -/
import Derived.Test.YtlgdeciikliihaaTold
namespace Go.Proofs.Ytlgdeciikliihaa
open Go.RowKit
set_option linter.unusedVariables false
/-- The parts of x and of y become one, in the model's list of leaders. -/
def mrg (L : List Int) (x y : Nat) : List Int := L.map fun v => if v = L.getD y 0 then L.getD x 0 else v
/-- The same, in the list of the roots of the program's chains. -/
def mrgR (R : List Int) (x y : Nat) : List Int := R.map fun v => if v = R.getD x 0 then R.getD y 0 else v
theorem getD_map (R : List Int) (f : Int → Int) (u : Nat) (h : u < R.length) : (R.map f).getD u 0 = f (R.getD u 0) := by
  rw [List.getD_eq_getElem?_getD, List.getD_eq_getElem?_getD, List.getElem?_map, List.getElem?_eq_getElem h]; rfl
theorem mrg_len (L : List Int) (x y : Nat) : (mrg L x y).length = L.length := by simp [mrg]
theorem mrgR_len (L : List Int) (x y : Nat) : (mrgR L x y).length = L.length := by simp [mrgR]
/-- Two lists tell the same parts apart. -/
structure Pat (R L : List Int) : Prop where
  lr : R.length = 16
  ll : L.length = 16
  iff : ∀ u v, u < 16 → v < 16 → (R.getD u 0 = R.getD v 0 ↔ L.getD u 0 = L.getD v 0)
theorem mrg_iff {ru rv rx ry lu lv lx ly : Int} (a1 : ru = rv ↔ lu = lv) (a2 : ru = rx ↔ lu = lx) (a3 : ru = ry ↔ lu = ly) (a4 : rv = rx ↔ lv = lx) (a5 : rv = ry ↔ lv = ly) (a6 : rx = ry ↔ lx = ly) :
    ((if ru = rx then ry else ru) = (if rv = rx then ry else rv)) ↔ ((if lu = ly then lx else lu) = (if lv = ly then lx else lv)) := by
  by_cases c1 : ru = rx
  · have d1 := a2.1 c1
    subst c1 d1
    by_cases c3 : rv = ru
    · have d3 := a4.1 c3
      subst c3 d3
      simp
    · have d3 : ¬ lv = lu := fun e => c3 (a4.2 e)
      rw [if_pos rfl, if_neg c3]
      by_cases c4 : rv = ry
      · have d4 := a5.1 c4
        subst c4 d4
        rw [if_pos rfl]
        simp
      · have d4 : ¬ lv = ly := fun e => c4 (a5.2 e)
        rw [if_neg d4]
        constructor
        · intro e; exact absurd e.symm c4
        · intro e; split at e <;> exact absurd e.symm d3
  · have d1 : ¬ lu = lx := fun e => c1 (a2.2 e)
    rw [if_neg c1]
    by_cases c2 : ru = ry
    · have d2 := a3.1 c2
      subst c2 d2
      rw [if_pos rfl]
      by_cases c3 : rv = rx
      · have d3 := a4.1 c3
        subst c3 d3
        rw [if_pos rfl]
        simp
      · have d3 : ¬ lv = lx := fun e => c3 (a4.2 e)
        rw [if_neg c3]
        by_cases c4 : rv = ru
        · have d4 := a5.1 c4
          subst c4 d4
          simp
        · have d4 : ¬ lv = lu := fun e => c4 (a5.2 e)
          rw [if_neg d4]
          constructor
          · intro e; exact absurd e.symm c4
          · intro e; exact absurd e.symm d3
    · have d2 : ¬ lu = ly := fun e => c2 (a3.2 e)
      rw [if_neg d2]
      by_cases c3 : rv = rx
      · have d3 := a4.1 c3
        subst c3 d3
        rw [if_pos rfl]
        constructor
        · intro e; exact absurd e c2
        · intro e; split at e <;> exact absurd e d1
      · have d3 : ¬ lv = lx := fun e => c3 (a4.2 e)
        rw [if_neg c3]
        by_cases c4 : rv = ry
        · have d4 := a5.1 c4
          subst c4 d4
          rw [if_pos rfl]
          constructor
          · intro e; exact absurd e c2
          · intro e; exact absurd e d1
        · have d4 : ¬ lv = ly := fun e => c4 (a5.2 e)
          rw [if_neg d4]
          exact a1
theorem Pat.step {R L : List Int} (h : Pat R L) (x y : Nat) (hx : x < 16) (hy : y < 16) : Pat (mrgR R x y) (mrg L x y) := by
  refine ⟨by rw [mrgR_len]; exact h.lr, by rw [mrg_len]; exact h.ll, fun u v hu hv => ?_⟩
  unfold mrgR mrg
  rw [getD_map _ _ _ (by rw [h.lr]; exact hu), getD_map _ _ _ (by rw [h.lr]; exact hv), getD_map _ _ _ (by rw [h.ll]; exact hu), getD_map _ _ _ (by rw [h.ll]; exact hv)]
  have a1 := h.iff u v hu hv
  have a2 := h.iff u x hu hx
  have a3 := h.iff u y hu hy
  have a4 := h.iff v x hv hx
  have a5 := h.iff v y hv hy
  have a6 := h.iff x y hx hy
  clear h hx hy hu hv
  generalize R.getD u 0 = ru at *
  generalize R.getD v 0 = rv at *
  generalize R.getD x 0 = rx at *
  generalize R.getD y 0 = ry at *
  generalize L.getD u 0 = lu at *
  generalize L.getD v 0 = lv at *
  generalize L.getD x 0 = lx at *
  generalize L.getD y 0 = ly at *
  exact mrg_iff a1 a2 a3 a4 a5 a6
/-- The sixteen nodes, each its own leader. -/
def ids : List Int := (List.range 16).map Int.ofNat
theorem ids_len : ids.length = 16 := by simp [ids]
theorem Pat.start : Pat ids ids := ⟨ids_len, ids_len, fun _ _ _ _ => Iff.rfl⟩
/-- Leaders behind i joins of the lower points of A with the upper points of B. -/
def led (n : Nat) (A B : List Int) : Nat → List Int
  | 0 => ids
  | i + 1 => mrg (led n A B i) (A.getD (n + i) 0).toNat (8 + B.getD i 0).toNat
def rts (n : Nat) (A B : List Int) : Nat → List Int
  | 0 => ids
  | i + 1 => mrgR (rts n A B i) (A.getD (n + i) 0).toNat (8 + B.getD i 0).toNat
/-- Numbers of parts. -/
def Nums (A : List Int) : Prop := ∀ i, 0 ≤ A.getD i 0 ∧ A.getD i 0 < 8
theorem pat_led (n : Nat) (A B : List Int) (hA : Nums A) (hB : Nums B) (i : Nat) : Pat (rts n A B i) (led n A B i) := by
  induction i with
  | zero => exact Pat.start
  | succ i ih => have a := hA (n + i); have b := hB i; exact ih.step _ _ (by omega) (by omega)
theorem led_len (n : Nat) (A B : List Int) (i : Nat) : (led n A B i).length = 16 := by
  induction i with
  | zero => exact ids_len
  | succ i ih => rw [led, mrg_len]; exact ih
theorem rts_len (n : Nat) (A B : List Int) (i : Nat) : (rts n A B i).length = 16 := by
  induction i with
  | zero => exact ids_len
  | succ i ih => rw [rts, mrgR_len]; exact ih
theorem ids_get (u : Nat) (h : u < 16) : ids.getD u 0 = u := by
  rw [List.getD_eq_getElem?_getD]; simp [ids, h]
theorem led_bd (n : Nat) (A B : List Int) (hA : Nums A) (hB : Nums B) (i u : Nat) (h : u < 16) : 0 ≤ (led n A B i).getD u 0 ∧ (led n A B i).getD u 0 < 16 := by
  induction i generalizing u with
  | zero => rw [led, ids_get u h]; omega
  | succ i ih =>
    have a := hA (n + i)
    have := ih u h
    have := ih (A.getD (n + i) 0).toNat (by omega)
    rw [led]; unfold mrg; rw [getD_map _ _ _ (by rw [led_len]; exact h)]
    split <;> omega
theorem rts_bd (n : Nat) (A B : List Int) (hA : Nums A) (hB : Nums B) (i u : Nat) (h : u < 16) : 0 ≤ (rts n A B i).getD u 0 ∧ (rts n A B i).getD u 0 < 16 := by
  induction i generalizing u with
  | zero => rw [rts, ids_get u h]; omega
  | succ i ih =>
    have a := hB i
    have := ih u h
    have := ih (8 + B.getD i 0).toNat (by omega)
    rw [rts]; unfold mrgR; rw [getD_map _ _ _ (by rw [rts_len]; exact h)]
    split <;> omega
/-- What has been joined stays joined. -/
theorem led_keep (n : Nat) (A B : List Int) (i u v : Nat) (hu : u < 16) (hv : v < 16) (h : (led n A B i).getD u 0 = (led n A B i).getD v 0) (d : Nat) : (led n A B (i + d)).getD u 0 = (led n A B (i + d)).getD v 0 := by
  induction d with
  | zero => exact h
  | succ d ih =>
    rw [← Nat.add_assoc, led]; unfold mrg
    rw [getD_map _ _ _ (by rw [led_len]; exact hu), getD_map _ _ _ (by rw [led_len]; exact hv), ih]
theorem led_joined (n : Nat) (A B : List Int) (hA : Nums A) (hB : Nums B) (i m : Nat) (hi : i < m) : (led n A B m).getD (A.getD (n + i) 0).toNat 0 = (led n A B m).getD (8 + B.getD i 0).toNat 0 := by
  have a := hA (n + i)
  have b := hB i
  obtain ⟨d, rfl⟩ : ∃ d, m = (i + 1) + d := ⟨m - (i + 1), by omega⟩
  refine led_keep n A B (i + 1) _ _ (by omega) (by omega) ?_ d
  rw [led]; unfold mrg
  rw [getD_map _ _ _ (by rw [led_len]; omega), getD_map _ _ _ (by rw [led_len]; omega), if_pos rfl]
  split <;> rfl
/-- A chain of at most k steps leads from x to r. -/
def Root (nx : List Int) : Nat → Int → Int → Prop
  | 0, x, r => nx.getD x.toNat 0 = -1 ∧ r = x
  | k + 1, x, r => (nx.getD x.toNat 0 = -1 ∧ r = x) ∨ (0 ≤ nx.getD x.toNat 0 ∧ nx.getD x.toNat 0 < 16 ∧ Root nx k (nx.getD x.toNat 0) r)
theorem Root.more {nx : List Int} {k : Nat} {x r : Int} (h : Root nx k x r) : Root nx (k + 1) x r := by
  induction k generalizing x with
  | zero => exact .inl h
  | succ k ih =>
    rcases h with h | ⟨h1, h2, h3⟩
    · exact .inl h
    · exact .inr ⟨h1, h2, ih h3⟩
theorem Root.last {nx : List Int} {k : Nat} {x r : Int} (h : Root nx k x r) : nx.getD r.toNat 0 = -1 := by
  induction k generalizing x with
  | zero => rw [h.2]; exact h.1
  | succ k ih =>
    rcases h with h | ⟨h1, h2, h3⟩
    · rw [h.2]; exact h.1
    · exact ih h3
theorem getD_set (nx : List Int) (f u : Nat) (t : Int) (hf : f < nx.length) : (nx.set f t).getD u 0 = if f = u then t else nx.getD u 0 := by
  rw [List.getD_eq_getElem?_getD, List.getD_eq_getElem?_getD, List.getElem?_set]
  by_cases e : f = u
  · subst e; simp [hf]
  · simp [e]
theorem root_set {nx : List Int} {k : Nat} {z r f t : Int} (hz : 0 ≤ z) (hl : nx.length = 16) (hf : 0 ≤ f) (hf2 : f < 16) (ht : 0 ≤ t) (ht2 : t < 16) (hne : f ≠ t) (e1 : nx.getD f.toNat 0 = -1) (e2 : nx.getD t.toNat 0 = -1) (h : Root nx k z r) :
    Root (nx.set f.toNat t) (k + 1) z (if r = f then t else r) := by
  have G := fun u => getD_set nx f.toNat u t (by omega)
  have ht' : (nx.set f.toNat t).getD t.toNat 0 = -1 := by rw [G, if_neg (by omega)]; exact e2
  induction k generalizing z with
  | zero =>
    obtain ⟨h1, rfl⟩ := h
    by_cases e : r = f
    · subst e
      rw [if_pos rfl]
      refine .inr ?_
      rw [G, if_pos rfl]
      exact ⟨ht, ht2, ht', rfl⟩
    · rw [if_neg e]
      refine .inl ⟨?_, rfl⟩
      rw [G, if_neg (by omega)]; exact h1
  | succ k ih =>
    rcases h with ⟨h1, rfl⟩ | ⟨h1, h2, h3⟩
    · by_cases e : r = f
      · subst e
        rw [if_pos rfl]
        refine .inr ?_
        rw [G, if_pos rfl]
        exact ⟨ht, ht2, .inl ⟨ht', rfl⟩⟩
      · rw [if_neg e]
        refine .inl ⟨?_, rfl⟩
        rw [G, if_neg (by omega)]; exact h1
    · refine .inr ?_
      have hzf : f.toNat ≠ z.toNat := by intro e; rw [← e] at h1; omega
      rw [G, if_neg hzf]
      exact ⟨h1, h2, ih h1 h3⟩
/-- Chains of at most j steps lead from each node to its root. -/
structure For (nx R : List Int) (j : Nat) : Prop where
  len : nx.length = 16
  rlen : R.length = 16
  root : ∀ u, u < 16 → 0 ≤ R.getD u 0 ∧ R.getD u 0 < 16 ∧ Root nx j u (R.getD u 0)
def nils : List Int := List.replicate 16 (-1)
theorem For.start : For nils ids 0 := by
  refine ⟨by simp [nils], ids_len, fun u hu => ?_⟩
  rw [ids_get u hu]
  refine ⟨by omega, by omega, ?_, rfl⟩
  rw [List.getD_eq_getElem?_getD]; unfold nils; rw [List.getElem?_replicate]; simp [hu]
theorem For.same {nx R : List Int} {j : Nat} (h : For nx R j) (x y : Nat) (hx : x < 16) (hy : y < 16) (he : R.getD x 0 = R.getD y 0) : For nx (mrgR R x y) (j + 1) := by
  refine ⟨h.len, by rw [mrgR_len]; exact h.rlen, fun u hu => ?_⟩
  obtain ⟨a, b, c⟩ := h.root u hu
  unfold mrgR; rw [getD_map _ _ _ (by rw [h.rlen]; exact hu), he]
  have e : (if R.getD u 0 = R.getD y 0 then R.getD y 0 else R.getD u 0) = R.getD u 0 := by split <;> simp_all
  rw [e]
  exact ⟨a, b, c.more⟩
theorem For.join {nx R : List Int} {j : Nat} (h : For nx R j) (x y : Nat) (hx : x < 16) (hy : y < 16) (he : R.getD x 0 ≠ R.getD y 0) : For (nx.set (R.getD x 0).toNat (R.getD y 0)) (mrgR R x y) (j + 1) := by
  refine ⟨by simp [h.len], by rw [mrgR_len]; exact h.rlen, fun u hu => ?_⟩
  obtain ⟨a, b, c⟩ := h.root u hu
  obtain ⟨x1, x2, x3⟩ := h.root x hx
  obtain ⟨y1, y2, y3⟩ := h.root y hy
  unfold mrgR; rw [getD_map _ _ _ (by rw [h.rlen]; exact hu)]
  refine ⟨by split <;> omega, by split <;> omega, ?_⟩
  exact root_set (by omega) h.len x1 x2 y1 y2 he x3.last y3.last c
theorem fi_mem (zs : List Int) (x : Int) (k : Nat) (hk : k ≤ zs.length) : x ∈ zs.take k ↔ fi zs x < k := by
  constructor
  · intro h
    obtain ⟨i, hi, he⟩ := List.getElem_of_mem h
    refine Decidable.byContradiction fun hn => ?_
    simp only [List.length_take] at hi
    refine fi_before zs x i (by omega) ?_
    rw [List.getElem_take] at he
    rw [List.getD_eq_getElem?_getD, List.getElem?_eq_getElem (by omega), ← he]; rfl
  · intro h
    have h1 := fi_at zs x (by omega)
    rw [← h1, List.getD_eq_getElem?_getD, List.getElem?_eq_getElem (by omega)]
    have : (zs.take k)[fi zs x]'(by simp; omega) = zs[fi zs x] := List.getElem_take
    show zs[fi zs x] ∈ _
    rw [← this]
    exact List.getElem_mem _
/-- How many of the entries from N on, the first i of them, have not been seen ahead of them. -/
def cn (zs : List Int) (N : Nat) : Nat → Nat
  | 0 => 0
  | i + 1 => if fi zs (zs.getD (N + i) 0) < N + i then cn zs N i else cn zs N i + 1
theorem cn_same (xs ys : List Int) (hl : xs.length = ys.length) (h : ∀ i j, i < xs.length → j < xs.length → (xs.getD i 0 = xs.getD j 0 ↔ ys.getD i 0 = ys.getD j 0)) (N i : Nat) (hi : N + i ≤ xs.length) : cn xs N i = cn ys N i := by
  induction i with
  | zero => rfl
  | succ i ih => rw [cn, cn, fi_same xs ys hl h (N + i) (by omega), ih (by omega)]
theorem cn_le (zs : List Int) (N i : Nat) : cn zs N i ≤ i := by
  induction i with
  | zero => exact Nat.le_refl _
  | succ i ih => rw [cn]; split <;> omega
/-- The nodes of the ends of a product, and of the points in its middle. -/
def nods (n : Nat) (A B : List Int) : List Int :=
  (List.range n).map (fun i => A.getD i 0) ++ (List.range n).map (fun i => 8 + B.getD (n + i) 0) ++ (List.range n).map (fun i => 8 + B.getD i 0)
theorem nods_len (n : Nat) (A B : List Int) : (nods n A B).length = 2 * n + n := by simp [nods]; omega
/-- Their labels. -/
def lab (R ns : List Int) : List Int := ns.map fun u => R.getD u.toNat 0
theorem lab_len (R ns : List Int) : (lab R ns).length = ns.length := by simp [lab]
theorem nods_bd (n : Nat) (A B : List Int) (hA : Nums A) (hB : Nums B) : ∀ u ∈ nods n A B, 0 ≤ u ∧ u < 16 := by
  intro u hu
  simp only [nods, List.mem_append, List.mem_map, List.mem_range] at hu
  rcases hu with (⟨i, _, rfl⟩ | ⟨i, _, rfl⟩) | ⟨i, _, rfl⟩
  · have := hA i; omega
  · have := hB (n + i); omega
  · have := hB i; omega
theorem lab_same (R L ns : List Int) (h : Pat R L) (hn : ∀ u ∈ ns, 0 ≤ u ∧ u < 16) (i j : Nat) (hi : i < (lab R ns).length) (hj : j < (lab R ns).length) : ((lab R ns).getD i 0 = (lab R ns).getD j 0 ↔ (lab L ns).getD i 0 = (lab L ns).getD j 0) := by
  rw [lab_len] at hi hj
  have key : ∀ (R : List Int) (i : Nat) (h : i < ns.length), (lab R ns).getD i 0 = R.getD (ns[i]).toNat 0 := by
    intro R i h
    rw [List.getD_eq_getElem?_getD]; simp [lab, h]
  rw [key R i hi, key R j hj, key L i hi, key L j hj]
  have a := hn _ (List.getElem_mem hi)
  have b := hn _ (List.getElem_mem hj)
  exact h.iff _ _ (by omega) (by omega)
/-- The numbers of a product's parts, and how many parts are left out. -/
def prP (n : Nat) (A B : List Int) : List Int := told ((lab (led n A B n) (nods n A B)).take (2 * n))
def prC (n : Nat) (A B : List Int) : Nat := cn (lab (led n A B n) (nods n A B)) (2 * n) n
theorem told_take (xs ys : List Int) (hl : xs.length = ys.length) (h : ∀ i j, i < xs.length → j < xs.length → (xs.getD i 0 = xs.getD j 0 ↔ ys.getD i 0 = ys.getD j 0)) (N : Nat) : told (xs.take N) = told (ys.take N) := by
  refine told_same _ _ (by simp [hl]) (fun i j hi hj => ?_)
  simp only [List.length_take] at hi hj
  rw [getD_take _ _ _ (by omega), getD_take _ _ _ (by omega), getD_take _ _ _ (by omega), getD_take _ _ _ (by omega)]
  exact h i j (by omega) (by omega)
theorem prP_rts (n : Nat) (A B : List Int) (hA : Nums A) (hB : Nums B) : told ((lab (rts n A B n) (nods n A B)).take (2 * n)) = prP n A B :=
  told_take _ _ (by rw [lab_len, lab_len]) (lab_same _ _ _ (pat_led n A B hA hB n) (nods_bd n A B hA hB)) _
theorem prC_rts (n : Nat) (A B : List Int) (hA : Nums A) (hB : Nums B) : cn (lab (rts n A B n) (nods n A B)) (2 * n) n = prC n A B :=
  cn_same _ _ (by rw [lab_len, lab_len]) (lab_same _ _ _ (pat_led n A B hA hB n) (nods_bd n A B hA hB)) _ _ (by rw [lab_len, nods_len]; omega)
end Go.Proofs.Ytlgdeciikliihaa
