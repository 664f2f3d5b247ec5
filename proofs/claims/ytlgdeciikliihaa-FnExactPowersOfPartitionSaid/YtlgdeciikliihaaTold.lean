/- Plain mathematics: the parts of points with labels, and the test of a partition's numbers. -/
import Derived.Test.YtlgdeciikliihaaPb
namespace Go.Proofs.Ytlgdeciikliihaa
open Go.RowKit
set_option linter.unusedVariables false
/-- The first place of a label. -/
def fi : List Int → Int → Nat
  | [], _ => 0
  | y :: ys, x => if y = x then 0 else fi ys x + 1
theorem fi_le_len (xs : List Int) (x : Int) : fi xs x ≤ xs.length := by
  induction xs with
  | nil => exact Nat.le_refl _
  | cons y ys ih => unfold fi; split <;> simp <;> omega
theorem fi_before (xs : List Int) (x : Int) (j : Nat) (h : j < fi xs x) : xs.getD j 0 ≠ x := by
  induction xs generalizing j with
  | nil => simp [fi] at h
  | cons y ys ih =>
    unfold fi at h
    split at h
    · omega
    · rename_i hne
      cases j with
      | zero => simpa using hne
      | succ j => simpa using ih j (by omega)
theorem fi_at (xs : List Int) (x : Int) (h : fi xs x < xs.length) : xs.getD (fi xs x) 0 = x := by
  induction xs with
  | nil => simp at h
  | cons y ys ih =>
    unfold fi at h ⊢
    split
    · rename_i he; simpa using he
    · rename_i hne
      rw [if_neg hne] at h
      simpa using ih (by simpa using h)
theorem fi_ge (xs : List Int) (x : Int) (k : Nat) (hk : k ≤ xs.length) (h : ∀ j, j < k → xs.getD j 0 ≠ x) : k ≤ fi xs x := by
  refine Decidable.byContradiction fun hn => ?_
  have hlt : fi xs x < k := by omega
  exact h _ hlt (fi_at xs x (by omega))
theorem fi_eq (xs : List Int) (x : Int) (i : Nat) (hi : i < xs.length) (he : xs.getD i 0 = x) (h : ∀ j, j < i → xs.getD j 0 ≠ x) : fi xs x = i := by
  have h1 := fi_ge xs x i (by omega) h
  refine Decidable.byContradiction fun hn => ?_
  exact fi_before xs x i (by omega) he
theorem fi_self (xs : List Int) (k : Nat) (h : k < xs.length) : fi xs (xs.getD k 0) ≤ k := by
  refine Decidable.byContradiction fun hn => ?_
  exact fi_before xs _ k (by omega) rfl
theorem fi_take (xs : List Int) (x : Int) (k : Nat) (h : fi xs x < k) : ∃ j, j < k ∧ fi xs x = j := ⟨_, h, rfl⟩
/-- The numbers of the parts of the first k points, and how many parts they are. -/
def tS (xs : List Int) : Nat → List Int × Nat
  | 0 => ([], 0)
  | k + 1 => if fi xs (xs.getD k 0) < k then ((tS xs k).1 ++ [(tS xs k).1.getD (fi xs (xs.getD k 0)) 0], (tS xs k).2) else ((tS xs k).1 ++ [((tS xs k).2 : Int)], (tS xs k).2 + 1)
theorem tS_len (xs : List Int) (k : Nat) : (tS xs k).1.length = k := by
  induction k with
  | zero => rfl
  | succ k ih => rw [tS]; split <;> simp [ih]
theorem tS_cnt (xs : List Int) (k : Nat) : (tS xs k).2 ≤ k := by
  induction k with
  | zero => exact Nat.le_refl _
  | succ k ih => rw [tS]; split <;> simp <;> omega
theorem tS_lt (xs : List Int) (k : Nat) : ∀ x ∈ (tS xs k).1, 0 ≤ x ∧ x < (tS xs k).2 := by
  induction k with
  | zero => intro x hx; simp [tS] at hx
  | succ k ih =>
    have hl := tS_len xs k
    rw [tS]
    split
    · rename_i h
      intro x hx
      simp only [List.mem_append, List.mem_singleton] at hx
      rcases hx with hx | rfl
      · exact ih x hx
      · have : fi xs (xs.getD k 0) < (tS xs k).1.length := by omega
        rw [List.getD_eq_getElem?_getD, List.getElem?_eq_getElem this]
        exact ih _ (List.getElem_mem _)
    · intro x hx
      simp only [List.mem_append, List.mem_singleton] at hx
      rcases hx with hx | rfl
      · have := ih x hx; simp only; omega
      · simp only; omega
theorem tS_stay (xs : List Int) (k i : Nat) (hi : i < k) (d : Nat) : (tS xs (k + d)).1[i]? = (tS xs k).1[i]? := by
  induction d with
  | zero => rfl
  | succ d ih =>
    have hl := tS_len xs (k + d)
    rw [← Nat.add_assoc, tS]
    split <;> (simp only; rw [List.getElem?_append_left (by omega)]; exact ih)
/-- The array of the parts behind k points: zeros behind them. -/
def tZ (xs : List Int) (k : Nat) : List Int := (tS xs k).1 ++ List.replicate (8 - k) 0
theorem tZ_len (xs : List Int) (k : Nat) (h : k ≤ 8) : (tZ xs k).length = 8 := by simp [tZ, tS_len]; omega
theorem tZ_zero (xs : List Int) : tZ xs 0 = zer8 := by simp [tZ, tS, zer8]
theorem tZ_get (xs : List Int) (k j : Nat) (h : j < k) : (tZ xs k).getD j 0 = (tS xs k).1.getD j 0 := by
  unfold tZ
  rw [List.getD_eq_getElem?_getD, List.getD_eq_getElem?_getD, List.getElem?_append_left (by rw [tS_len]; exact h)]
theorem tZ_bd (xs : List Int) (k j : Nat) (h : j < k) : 0 ≤ (tZ xs k).getD j 0 ∧ (tZ xs k).getD j 0 < (tS xs k).2 := by
  rw [tZ_get _ _ _ h, List.getD_eq_getElem?_getD, List.getElem?_eq_getElem (by rw [tS_len]; exact h)]
  exact tS_lt xs k _ (List.getElem_mem _)
theorem tZ_step (xs : List Int) (k : Nat) (h : k < 8) (y : Int) (c : Nat) (hy : tS xs (k + 1) = ((tS xs k).1 ++ [y], c)) : (tZ xs k).set k y = tZ xs (k + 1) := by
  unfold tZ
  rw [hy]
  have e : 8 - k = (8 - (k + 1)) + 1 := by omega
  rw [e, List.replicate_succ, List.set_append_right _ _ (by rw [tS_len]; omega), tS_len, Nat.sub_self, List.set_cons_zero, List.append_assoc]
  rfl
theorem tS_old (xs : List Int) (k : Nat) (h : fi xs (xs.getD k 0) < k) : tS xs (k + 1) = ((tS xs k).1 ++ [(tZ xs k).getD (fi xs (xs.getD k 0)) 0], (tS xs k).2) := by
  rw [tZ_get _ _ _ h]; conv => lhs; rw [tS]
  rw [if_pos h]
theorem tS_new (xs : List Int) (k : Nat) (h : ¬ fi xs (xs.getD k 0) < k) : tS xs (k + 1) = ((tS xs k).1 ++ [((tS xs k).2 : Int)], (tS xs k).2 + 1) := by
  conv => lhs; rw [tS]
  rw [if_neg h]
/-- The parts of points with labels, as an array. -/
def told (xs : List Int) : List Int := tZ xs xs.length
theorem told_len (xs : List Int) (h : xs.length ≤ 8) : (told xs).length = 8 := tZ_len _ _ h
theorem told_get (xs : List Int) (k : Nat) (h : k < xs.length) (h8 : xs.length ≤ 8) : (told xs).getD k 0 = (tS xs (k + 1)).1.getD k 0 := by
  unfold told
  rw [tZ_get _ _ _ h, List.getD_eq_getElem?_getD, List.getD_eq_getElem?_getD]
  obtain ⟨d, hd⟩ : ∃ d, xs.length = (k + 1) + d := ⟨xs.length - (k + 1), by omega⟩
  rw [hd, tS_stay _ _ _ (by omega)]
theorem told_out (xs : List Int) (k : Nat) (h : xs.length ≤ k) : (told xs).getD k 0 = 0 := by
  unfold told tZ
  rw [List.getD_eq_getElem?_getD, List.getElem?_append_right (by rw [tS_len]; exact h), List.getElem?_replicate]
  split <;> rfl
/-- Lists with the same equal entries have the same parts. -/
theorem fi_same (xs ys : List Int) (hl : xs.length = ys.length) (h : ∀ i j, i < xs.length → j < xs.length → (xs.getD i 0 = xs.getD j 0 ↔ ys.getD i 0 = ys.getD j 0)) (k : Nat) (hk : k < xs.length) : fi xs (xs.getD k 0) = fi ys (ys.getD k 0) := by
  have h1 := fi_self ys k (by omega)
  symm
  refine (fi_eq xs _ _ (by omega) ?_ ?_).symm
  · exact (h _ _ (by omega) hk).2 (fi_at ys _ (by omega))
  · intro j hj e
    exact fi_before ys _ j hj ((h _ _ (by omega) hk).1 e)
theorem tS_same (xs ys : List Int) (hl : xs.length = ys.length) (h : ∀ i j, i < xs.length → j < xs.length → (xs.getD i 0 = xs.getD j 0 ↔ ys.getD i 0 = ys.getD j 0)) (k : Nat) (hk : k ≤ xs.length) : tS xs k = tS ys k := by
  induction k with
  | zero => rfl
  | succ k ih =>
    have ih := ih (by omega)
    have hf := fi_same xs ys hl h k (by omega)
    rw [tS, tS, hf, ih]
theorem told_same (xs ys : List Int) (hl : xs.length = ys.length) (h : ∀ i j, i < xs.length → j < xs.length → (xs.getD i 0 = xs.getD j 0 ↔ ys.getD i 0 = ys.getD j 0)) : told xs = told ys := by
  unfold told tZ
  rw [← hl, tS_same xs ys hl h _ (Nat.le_refl _)]
/-- The model's test: how many parts the first k points are in, if all is well with them. -/
def rgk (n : Int) (ms : List Int) : Nat → Option Nat
  | 0 => some 0
  | k + 1 => match rgk n ms k with
    | none => none
    | some c => if 2 * n ≤ k then (if ms.getD k 0 = 0 then some c else none) else if ms.getD k 0 > c then none else if ms.getD k 0 = c then some (c + 1) else some c
theorem rgk_none (n : Int) (ms : List Int) (k : Nat) (h : rgk n ms k = none) (d : Nat) : rgk n ms (k + d) = none := by
  induction d with
  | zero => exact h
  | succ d ih => rw [← Nat.add_assoc, rgk, ih]
theorem rgk_c (n : Int) (ms : List Int) (k c : Nat) (h : rgk n ms k = some c) : c ≤ k := by
  induction k generalizing c with
  | zero => simp [rgk] at h; omega
  | succ k ih =>
    unfold rgk at h
    split at h
    · simp at h
    · rename_i c' hc
      have := ih _ hc
      split at h
      · split at h <;> simp at h; omega
      · split at h
        · simp at h
        · split at h <;> (simp at h; omega)
/-- What the test has seen. -/
structure Rgi (ms : List Int) (k c : Nat) : Prop where
  same : tS ms k = (ms.take k, c)
  bd : ∀ i, i < k → 0 ≤ ms.getD i 0 ∧ ms.getD i 0 < c
  has : ∀ v : Int, 0 ≤ v → v < c → ∃ i, i < k ∧ ms.getD i 0 = v
theorem take_succ (ms : List Int) (k : Nat) (h : k < ms.length) : ms.take (k + 1) = ms.take k ++ [ms.getD k 0] := by
  rw [List.take_succ_eq_append_getElem h, List.getD_eq_getElem?_getD, List.getElem?_eq_getElem h]; rfl
theorem Rgi.old {ms : List Int} {k c : Nat} (h : Rgi ms k c) (hk : k < ms.length) (h0 : 0 ≤ ms.getD k 0) (hc : ms.getD k 0 < c) : Rgi ms (k + 1) c := by
  obtain ⟨i, hi, he⟩ := h.has _ h0 hc
  have hf : fi ms (ms.getD k 0) < k := by
    refine Decidable.byContradiction fun hn => ?_
    exact fi_before ms _ i (by omega) he
  refine ⟨?_, fun j hj => ?_, fun v v0 v1 => ?_⟩
  · rw [tS, if_pos hf, h.same, take_succ ms k hk]
    have e : ∀ f, f < k → (ms.take k).getD f 0 = ms.getD f 0 := fun f hf => by
      rw [List.getD_eq_getElem?_getD, List.getD_eq_getElem?_getD, List.getElem?_take_of_lt hf]
    simp only
    rw [e _ hf, fi_at ms _ (by omega)]
  · by_cases e : j = k
    · subst e; exact ⟨h0, hc⟩
    · exact h.bd j (by omega)
  · obtain ⟨i, hi, he⟩ := h.has v v0 v1
    exact ⟨i, by omega, he⟩
theorem Rgi.far {ms : List Int} {k c : Nat} (h : Rgi ms k c) (hk : k < ms.length) (hc : (c : Int) ≤ ms.getD k 0) : tS ms (k + 1) = (ms.take k ++ [(c : Int)], c + 1) := by
  have hf : ¬ fi ms (ms.getD k 0) < k := by
    intro hn
    have h1 := h.bd _ hn
    rw [fi_at ms _ (by omega)] at h1
    omega
  rw [tS, if_neg hf, h.same]
theorem Rgi.new {ms : List Int} {k c : Nat} (h : Rgi ms k c) (hk : k < ms.length) (hc : ms.getD k 0 = c) : Rgi ms (k + 1) (c + 1) := by
  refine ⟨?_, fun j hj => ?_, fun v v0 v1 => ?_⟩
  · rw [h.far hk (by omega), take_succ ms k hk, hc]
  · by_cases e : j = k
    · subst e; omega
    · have := h.bd j (by omega); omega
  · by_cases e : v = c
    · exact ⟨k, by omega, by omega⟩
    · obtain ⟨i, hi, he⟩ := h.has v v0 (by omega)
      exact ⟨i, by omega, he⟩
theorem getD_take (ms : List Int) (N k : Nat) (h : k < N) : (ms.take N).getD k 0 = ms.getD k 0 := by
  rw [List.getD_eq_getElem?_getD, List.getD_eq_getElem?_getD, List.getElem?_take_of_lt h]
theorem rgk_in (n : Int) (ms : List Int) (hb : ∀ i, 0 ≤ ms.getD i 0) (N : Nat) (hN : 2 * n = N) (hl : N ≤ ms.length) (k c : Nat) (hk : k ≤ N) (h : rgk n ms k = some c) : Rgi (ms.take N) k c := by
  induction k generalizing c with
  | zero => simp [rgk] at h; subst h; exact ⟨by simp [tS], fun i hi => by omega, fun v h0 h1 => by omega⟩
  | succ k ih =>
    unfold rgk at h
    split at h
    · simp at h
    · rename_i c' hc
      have hR := ih _ (by omega) hc
      have hg := getD_take ms N k (by omega)
      rw [if_neg (by omega)] at h
      have hlen : k < (ms.take N).length := by simp; omega
      have h0 := hb k
      split at h
      · simp at h
      · split at h
        · simp at h; subst h; exact hR.new hlen (by rw [hg]; omega)
        · simp at h; subst h; exact hR.old hlen (by rw [hg]; omega) (by rw [hg]; omega)
theorem rgk_end (n : Int) (ms : List Int) (hb : ∀ i, 0 ≤ ms.getD i 0) (N : Nat) (hN : 2 * n = N) (hl : ms.length = 8) (h8 : N ≤ 8) (d c : Nat) (hd : N + d ≤ 8) (h : rgk n ms (N + d) = some c) : rgk n ms N = some c ∧ ∀ i, N ≤ i → i < N + d → ms.getD i 0 = 0 := by
  induction d generalizing c with
  | zero => exact ⟨h, fun i h1 h2 => by omega⟩
  | succ d ih =>
    rw [← Nat.add_assoc, rgk] at h
    split at h
    · simp at h
    · rename_i c' hc
      rw [if_pos (by omega)] at h
      split at h
      · rename_i h0
        simp at h; subst h
        obtain ⟨h1, h2⟩ := ih _ (by omega) hc
        refine ⟨h1, fun i ha hb' => ?_⟩
        by_cases e : i = N + d
        · subst e; exact h0
        · exact h2 i ha (by omega)
      · simp at h
/-- The model's test and the parts of the numbers agree. -/
theorem rg_yes (n : Int) (ms : List Int) (hb : ∀ i, 0 ≤ ms.getD i 0) (N : Nat) (hN : 2 * n = N) (hl : ms.length = 8) (h8 : N ≤ 8) (c : Nat) (h : rgk n ms 8 = some c) : told (ms.take N) = ms := by
  obtain ⟨d, hd⟩ : ∃ d, 8 = N + d := ⟨8 - N, by omega⟩
  rw [hd] at h
  obtain ⟨h1, h2⟩ := rgk_end n ms hb N hN hl h8 d c (by omega) h
  have hR := rgk_in n ms hb N hN (by omega) N c (Nat.le_refl _) h1
  unfold told
  have e : (ms.take N).length = N := by simp; omega
  rw [e]
  unfold tZ
  rw [hR.same, List.take_take, Nat.min_self]
  apply List.ext_getElem (by simp; omega)
  intro i i1 i2
  simp only [List.length_append, List.length_take, List.length_replicate] at i1
  rw [List.getElem_append]
  split
  · rw [List.getElem_take]
  · rename_i hge
    simp at hge
    rw [List.getElem_replicate]
    have := h2 i (by omega) (by omega)
    rw [List.getD_eq_getElem?_getD, List.getElem?_eq_getElem i2] at this
    exact this.symm
theorem rg_no (n : Int) (ms : List Int) (hb : ∀ i, 0 ≤ ms.getD i 0) (N : Nat) (hN : 2 * n = N) (hl : ms.length = 8) (h8 : N ≤ 8) (k c : Nat) (hk : k < 8) (h : rgk n ms k = some c) (h2 : rgk n ms (k + 1) = none) : told (ms.take N) ≠ ms := by
  intro he
  have e : (ms.take N).length = N := by simp; omega
  rw [rgk, h] at h2
  simp only at h2
  by_cases hin : 2 * n ≤ k
  · rw [if_pos hin] at h2
    have h3 := told_out (ms.take N) k (by omega)
    rw [he] at h3
    rw [if_pos h3] at h2
    cases h2
  · rw [if_neg hin] at h2
    have hR := rgk_in n ms hb N hN (by omega) k c (by omega) h
    have hg := getD_take ms N k (by omega)
    have h3 := told_get (ms.take N) k (by omega) (by omega)
    have hgt : ms.getD k 0 > c := by
      refine Decidable.byContradiction fun hn => ?_
      rw [if_neg hn] at h2
      split at h2 <;> simp at h2
    rw [he, hR.far (by omega) (by rw [hg]; omega), List.getD_eq_getElem?_getD (l := _ ++ _), List.getElem?_append_right (by simp; omega)] at h3
    simp at h3
    have hm : min k (min N ms.length) = k := by omega
    rw [hm, Nat.sub_self] at h3
    simp at h3
    simp [List.getD_eq_getElem?_getD] at hgt
    omega
/-- Whether a size and numbers are a partition. -/
def isP (n : Int) (ms : List Int) : Bool := decide (1 ≤ n ∧ n ≤ 4) && decide (told (ms.take (2 * n).toNat) = ms)
end Go.Proofs.Ytlgdeciikliihaa
