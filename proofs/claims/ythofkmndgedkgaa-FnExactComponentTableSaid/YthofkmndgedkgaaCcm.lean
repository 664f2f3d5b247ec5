/- Plain mathematics: how many pairs have so many components. -/
import Derived.Test.YthofkmndgedkgaaRws
namespace Go.Proofs.Ythofkmndgedkgaa
open Go.RowKit
set_option linter.unusedVariables false
def tbOk (m : Nat) : Bool := ((allH (2 * m) 0).map sysO).all fun a => ((allH (2 * m) 0).map sysO).all fun b => let x := comps (mf a) (mf b) (2 * m); decide (1 ≤ x) && decide (x ≤ m)
set_option maxRecDepth 100000 in
theorem tbOk_all (m : Nat) (h1 : 1 ≤ m) (h5 : m ≤ 5) : tbOk m = true := by
  have h : m = 1 ∨ m = 2 ∨ m = 3 ∨ m = 4 ∨ m = 5 := by omega
  rcases h with rfl | rfl | rfl | rfl | rfl <;> decide +kernel
theorem tbN_bd (m : Nat) (h1 : 1 ≤ m) (h5 : m ≤ 5) (i j : Nat) (hi : i < (allH (2 * m) 0).length) (hj : j < (allH (2 * m) 0).length) : 1 ≤ tbN m (allH (2 * m) 0) i j ∧ tbN m (allH (2 * m) 0) i j ≤ m := by
  have h := tbOk_all m h1 h5
  unfold tbOk at h
  have h := List.all_eq_true.1 h _ (List.mem_map.2 ⟨_, List.getElem_mem hi, rfl⟩)
  have h := List.all_eq_true.1 h _ (List.mem_map.2 ⟨_, List.getElem_mem hj, rfl⟩)
  simp only [Bool.and_eq_true, decide_eq_true_eq] at h
  unfold tbN
  rw [List.getD_eq_getElem?_getD, List.getD_eq_getElem?_getD, List.getElem?_eq_getElem hi, List.getElem?_eq_getElem hj]
  exact h
def bump (c : List Int) (x : Nat) : List Int := c.set (x - 1) (c.getD (x - 1) 0 + 1)
theorem bump_len (c : List Int) (x : Nat) : (bump c x).length = c.length := by rw [bump, List.length_set]
/-- The counts after q numbers of the row i. -/
def ccR (m : Nat) (LL : List (List UInt8)) (i : Nat) (c : List Int) : Nat → List Int
  | 0 => c
  | q + 1 => bump (ccR m LL i c q) (tbN m LL i q)
def ccT (m : Nat) (LL : List (List UInt8)) (n : Nat) : Nat → List Int
  | 0 => List.replicate m 0
  | k + 1 => ccR m LL k (ccT m LL n k) n
theorem ccR_len (m : Nat) (LL : List (List UInt8)) (i : Nat) (c : List Int) (q : Nat) : (ccR m LL i c q).length = c.length := by
  induction q with
  | zero => rfl
  | succ q ih => rw [ccR, bump_len, ih]
theorem ccT_len (m : Nat) (LL : List (List UInt8)) (n k : Nat) : (ccT m LL n k).length = m := by
  induction k with
  | zero => simp [ccT]
  | succ k ih => rw [ccT, ccR_len, ih]
def CB (c : List Int) (T : Nat) : Prop := ∀ j, 0 ≤ c.getD j 0 ∧ c.getD j 0 ≤ T
theorem CB.bump {c : List Int} {T : Nat} (h : CB c T) (x : Nat) : CB (bump c x) (T + 1) := fun j => by
  have h1 := h j
  have h2 := h (x - 1)
  unfold Go.Proofs.Ythofkmndgedkgaa.bump
  generalize c.getD (x - 1) 0 = y at *
  by_cases e : x - 1 = j
  · subst e
    by_cases hl : x - 1 < c.length
    · rw [List.getD_eq_getElem?_getD, List.getElem?_set_self hl]
      simp only [Option.getD_some]; omega
    · rw [List.getD_eq_getElem?_getD, List.getElem?_eq_none (by simp; omega)]
      simp only [Option.getD_none]; omega
  · rw [List.getD_eq_getElem?_getD, List.getElem?_set_ne e, ← List.getD_eq_getElem?_getD]; omega
theorem ccR_bd (m : Nat) (LL : List (List UInt8)) (i : Nat) (c : List Int) (T : Nat) (h : CB c T) (q : Nat) : CB (ccR m LL i c q) (T + q) := by
  induction q with
  | zero => exact h
  | succ q ih => exact ih.bump _
theorem ccT_bd (m : Nat) (LL : List (List UInt8)) (n : Nat) (hn : n ≤ 200) (k : Nat) : CB (ccT m LL n k) (200 * k) := by
  induction k with
  | zero => intro j; rw [ccT, List.getD_eq_getElem?_getD, List.getElem?_replicate]; split <;> simp
  | succ k ih =>
    have := ccR_bd m LL k _ _ ih n
    intro j
    have := this j
    rw [ccT]; omega
end Go.Proofs.Ythofkmndgedkgaa
