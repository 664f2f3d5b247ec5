/- Plain mathematics: the ends of a product, and all its parts. -/
import Derived.Test.YtlgdeciikliihaaPtM
namespace Go.Proofs.Ytlgdeciikliihaa
open Go.RowKit
set_option linter.unusedVariables false
/-- The labels of the ends, behind i rounds: two are set in each. -/
def endG (L : List Int) (n i : Nat) : List Int := (List.range (2 * n)).map (fun j : Nat => if j < i ∨ (n ≤ j ∧ j < n + i) then L.getD j 0 else -1)
theorem endG_len (L : List Int) (n i : Nat) : (endG L n i).length = 2 * n := by simp [endG]
theorem endG_get (L : List Int) (n i j : Nat) (h : j < 2 * n) : (endG L n i)[j]? = some (if j < i ∨ (n ≤ j ∧ j < n + i) then L.getD j 0 else -1) := by simp [endG, h]
theorem endG_zero (L : List Int) (n : Nat) : endG L n 0 = List.replicate (2 * n) (-1) := by
  apply List.ext_getElem?
  intro j
  by_cases h : j < 2 * n
  · rw [endG_get _ _ _ _ h, if_neg (by omega), List.getElem?_replicate, if_pos h]
  · rw [List.getElem?_eq_none (by rw [endG_len]; omega), List.getElem?_eq_none (by simp; omega)]
theorem endG_step (L : List Int) (n i : Nat) (h : i < n) : ((endG L n i).set i (L.getD i 0)).set (n + i) (L.getD (n + i) 0) = endG L n (i + 1) := by
  apply List.ext_getElem?
  intro j
  by_cases hj : j < 2 * n
  · rw [endG_get _ _ _ _ hj, List.getElem?_set, List.getElem?_set, endG_get _ _ _ _ hj]
    simp only [List.length_set, endG_len]
    by_cases e1 : n + i = j
    · subst e1
      rw [if_pos rfl, if_pos hj, if_pos (by omega)]
    · rw [if_neg e1]
      by_cases e2 : i = j
      · subst e2
        rw [if_pos rfl, if_pos hj, if_pos (by omega)]
      · rw [if_neg e2]
        congr 1
        by_cases c : j < i ∨ (n ≤ j ∧ j < n + i)
        · rw [if_pos c, if_pos (by omega)]
        · rw [if_neg c, if_neg (by omega)]
  · rw [List.getElem?_eq_none (by simp [endG_len]; omega), List.getElem?_eq_none (by rw [endG_len]; omega)]
theorem endG_end (L : List Int) (n : Nat) (hL : 2 * n ≤ L.length) : endG L n n = L.take (2 * n) := by
  apply List.ext_getElem?
  intro j
  by_cases hj : j < 2 * n
  · rw [endG_get _ _ _ _ hj, if_pos (by omega), List.getElem?_take_of_lt hj, List.getD_eq_getElem?_getD, List.getElem?_eq_getElem (by omega)]; rfl
  · rw [List.getElem?_eq_none (by rw [endG_len]; omega), List.getElem?_eq_none (by simp; omega)]
/-- All parts behind i rounds. -/
def alL (zs : List Int) (N : Nat) : Nat → List Int
  | 0 => zs.take N
  | i + 1 => if fi zs (zs.getD (N + i) 0) < N + i then alL zs N i else alL zs N i ++ [zs.getD (N + i) 0]
theorem alL_len (zs : List Int) (N i : Nat) (h : N ≤ zs.length) : (alL zs N i).length = N + cn zs N i := by
  induction i with
  | zero => simp [alL, cn]; omega
  | succ i ih => rw [alL, cn]; split <;> simp [ih]; omega
theorem alL_mem (zs : List Int) (N i : Nat) (h : N + i ≤ zs.length) (x : Int) : x ∈ alL zs N i ↔ x ∈ zs.take (N + i) := by
  induction i with
  | zero => rfl
  | succ i ih =>
    have ih := ih (by omega)
    rw [alL, show N + (i + 1) = (N + i) + 1 by omega, take_succ zs (N + i) (by omega), List.mem_append, List.mem_singleton]
    split
    · rename_i hf
      rw [ih]
      constructor
      · exact .inl
      · rintro (h1 | rfl)
        · exact h1
        · exact (fi_mem zs _ _ (by omega)).2 hf
    · rw [List.mem_append, List.mem_singleton, ih]
theorem fi_lt_mem (xs : List Int) (x : Int) : fi xs x < xs.length ↔ x ∈ xs := by
  have := fi_mem xs x xs.length (Nat.le_refl _)
  rw [List.take_length] at this
  exact this.symm
/-- Whether a part of the middle has been seen. -/
theorem alL_seen (zs : List Int) (N i : Nat) (h : N + i ≤ zs.length) (x : Int) : decide (fi (alL zs N i) x < (alL zs N i).length) = decide (fi zs x < N + i) := by
  rw [decide_eq_decide, fi_lt_mem, alL_mem zs N i h, fi_mem zs x (N + i) h]
theorem alL_bd (zs : List Int) (N i : Nat) (hz : ∀ x ∈ zs, 0 ≤ x ∧ x < 16) (h : N + i ≤ zs.length) (k : Nat) (hk : k < (alL zs N i).length) : 0 ≤ (alL zs N i).getD k 0 ∧ (alL zs N i).getD k 0 < 16 := by
  rw [List.getD_eq_getElem?_getD, List.getElem?_eq_getElem hk]
  have := List.getElem_mem hk
  rw [alL_mem zs N i h] at this
  exact hz _ (List.mem_of_mem_take this)
theorem lab_get (R ns : List Int) (i : Nat) (h : i < ns.length) : (lab R ns).getD i 0 = R.getD (ns.getD i 0).toNat 0 := by
  rw [List.getD_eq_getElem?_getD]; simp [lab, h]
theorem nods_0 (n : Nat) (A B : List Int) (i : Nat) (h : i < n) : (nods n A B).getD i 0 = A.getD i 0 := by
  unfold nods
  rw [List.getD_eq_getElem?_getD, List.append_assoc, List.getElem?_append_left (by simpa using h)]
  simp [h]
theorem nods_1 (n : Nat) (A B : List Int) (i : Nat) (h : i < n) : (nods n A B).getD (n + i) 0 = 8 + B.getD (n + i) 0 := by
  unfold nods
  rw [List.getD_eq_getElem?_getD, List.append_assoc, List.getElem?_append_right (by simp), List.getElem?_append_left (by simp; omega)]
  simp [h]
theorem nods_2 (n : Nat) (A B : List Int) (i : Nat) (h : i < n) : (nods n A B).getD (2 * n + i) 0 = 8 + B.getD i 0 := by
  unfold nods
  rw [List.getD_eq_getElem?_getD, List.append_assoc, List.getElem?_append_right (by simp; omega), List.getElem?_append_right (by simp; omega)]
  have : 2 * n + i - ((List.range n).map (fun i => A.getD i 0)).length - ((List.range n).map (fun i => 8 + B.getD (n + i) 0)).length = i := by simp; omega
  rw [this]
  simp [h]
theorem lab_bd (R ns : List Int) (hR : R.length = 16) (hb : ∀ u, u < 16 → 0 ≤ R.getD u 0 ∧ R.getD u 0 < 16) (hn : ∀ u ∈ ns, 0 ≤ u ∧ u < 16) : ∀ x ∈ lab R ns, 0 ≤ x ∧ x < 16 := by
  intro x hx
  simp only [lab, List.mem_map] at hx
  obtain ⟨u, hu, rfl⟩ := hx
  have := hn u hu
  exact hb _ (by omega)
end Go.Proofs.Ytlgdeciikliihaa
