/- Plain mathematics: upper and lower points of the parts of a partition, in two readings. -/
import Derived.Test.YthjgcakpimbcbaaShp2
namespace Go.Proofs.Ythjgcakpimbcbaa
open Go.RowKit
set_option linter.unusedVariables false
def upL (N : Nat) (ms : List Int) : Nat → List Int
  | 0 => List.replicate 8 0
  | k + 1 => if k < N then (upL N ms k).set (ms.getD k 0).toNat ((upL N ms k).getD (ms.getD k 0).toNat 0 + 1) else upL N ms k
def loL (N : Nat) (ms : List Int) : Nat → List Int
  | 0 => List.replicate 8 0
  | k + 1 => if k < N then loL N ms k else (loL N ms k).set (ms.getD k 0).toNat ((loL N ms k).getD (ms.getD k 0).toNat 0 + 1)
def ptL (ms : List Int) : Nat → Int
  | 0 => 0
  | k + 1 => if ptL ms k < ms.getD k 0 + 1 then ms.getD k 0 + 1 else ptL ms k
theorem upL_len (N : Nat) (ms : List Int) (k : Nat) : (upL N ms k).length = 8 := by
  induction k with
  | zero => simp [upL]
  | succ k ih => rw [upL]; split <;> simp [ih]
theorem loL_len (N : Nat) (ms : List Int) (k : Nat) : (loL N ms k).length = 8 := by
  induction k with
  | zero => simp [loL]
  | succ k ih => rw [loL]; split <;> simp [ih]
theorem getD_rep (m i : Nat) : (List.replicate m (0 : Int)).getD i 0 = 0 := by
  rw [List.getD_eq_getElem?_getD, List.getElem?_replicate]; split <;> rfl
theorem getD_set' (xs : List Int) (f u : Nat) (t : Int) : (xs.set f t).getD u 0 = if f = u ∧ f < xs.length then t else xs.getD u 0 := by
  rw [List.getD_eq_getElem?_getD, List.getD_eq_getElem?_getD, List.getElem?_set]
  by_cases e : f = u
  · subst e
    by_cases h : f < xs.length
    · simp [h]
    · simp [h]
  · simp [e]
theorem upL_bd (N : Nat) (ms : List Int) (k i : Nat) : 0 ≤ (upL N ms k).getD i 0 ∧ (upL N ms k).getD i 0 ≤ k := by
  induction k generalizing i with
  | zero => rw [upL, getD_rep]; simp
  | succ k ih =>
    have h1 := ih i
    have h2 := ih (ms.getD k 0).toNat
    rw [upL]
    split
    · rw [getD_set']; split <;> omega
    · omega
theorem loL_bd (N : Nat) (ms : List Int) (k i : Nat) : 0 ≤ (loL N ms k).getD i 0 ∧ (loL N ms k).getD i 0 ≤ k := by
  induction k generalizing i with
  | zero => rw [loL, getD_rep]; simp
  | succ k ih =>
    have h1 := ih i
    have h2 := ih (ms.getD k 0).toNat
    rw [loL]
    split
    · omega
    · rw [getD_set']; split <;> omega
theorem ptL_bd (ms : List Int) (h : ∀ k, 0 ≤ ms.getD k 0 ∧ ms.getD k 0 < 8) (k : Nat) : 0 ≤ ptL ms k ∧ ptL ms k ≤ 8 := by
  induction k with
  | zero => simp [ptL]
  | succ k ih => have := h k; unfold ptL; split <;> omega
/-- The two readings agree. -/
theorem sd_up (N P : Nat) (ms : List Int) (hA : Nums ms) (k : Nat) (hk : ∀ i, i < k → (ms.getD i 0).toNat < P) (hP : P ≤ 8) (v : Nat) (hv : v < P) :
    (sdZ N P ms k).getD (v * 2) 0 = (upL N ms k).getD v 0 ∧ (sdZ N P ms k).getD (v * 2 + 1) 0 = (loL N ms k).getD v 0 := by
  induction k with
  | zero => simp only [sdZ, upL, loL, getD_rep]; exact ⟨trivial, trivial⟩
  | succ k ih =>
    obtain ⟨i1, i2⟩ := ih (fun i hi => hk i (by omega))
    have hx := hk k (by omega)
    have hl := sdZ_len N P ms k
    have hu := upL_len N ms k
    have hlo := loL_len N ms k
    rw [sdZ, upL, loL]
    unfold sdC
    by_cases hkn : k < N
    · rw [if_pos hkn, if_pos hkn, if_pos hkn, Nat.add_zero, getD_set', getD_set', getD_set', hl, hu]
      constructor
      · by_cases e : (ms.getD k 0).toNat = v
        · rw [if_pos (by omega), if_pos (by omega)] 
          rw [← e] at i1
          rw [i1]
        · rw [if_neg (by omega), if_neg (by omega)]; exact i1
      · rw [if_neg (by omega)]; exact i2
    · rw [if_neg hkn, if_neg hkn, if_neg hkn, getD_set', getD_set', getD_set', hl, hlo]
      constructor
      · rw [if_neg (by omega)]; exact i1
      · by_cases e : (ms.getD k 0).toNat = v
        · rw [if_pos (by omega), if_pos (by omega)]
          rw [← e] at i2
          rw [i2]
        · rw [if_neg (by omega), if_neg (by omega)]; exact i2
theorem pt_max (ms : List Int) (k : Nat) (h0 : 0 ≤ ms.getD 0 0) : ptL ms (k + 1) = mxL ms k + 1 := by
  induction k with
  | zero =>
    show (if (0 : Int) < ms.getD 0 0 + 1 then ms.getD 0 0 + 1 else 0) = ms.getD 0 0 + 1
    rw [if_pos (by omega)]
  | succ k ih =>
    rw [ptL, ih, mxL]
    split <;> split <;> omega
theorem mx_take (ms : List Int) (N k : Nat) (h : k < N) : mxL (ms.take N) k = mxL ms k := by
  induction k with
  | zero => exact getD_take _ _ _ h
  | succ k ih => unfold mxL; rw [ih (by omega), getD_take _ _ _ h]
theorem pt_par (ms : List Int) (N : Nat) (h1 : 1 ≤ N) (hA : Nums ms) : ptL ms (2 * N) = (parN ms N : Nat) := by
  obtain ⟨k, hk⟩ : ∃ k, 2 * N = k + 1 := ⟨2 * N - 1, by omega⟩
  unfold parN
  rw [mx_take ms (2 * N) (2 * N - 1) (by omega), hk, pt_max ms k (hA 0).1]
  have := mxL_bd ms hA k
  simp only [Nat.add_sub_cancel]
  omega
theorem par_bd (ms : List Int) (N : Nat) (h1 : 1 ≤ N) (hA : Nums ms) (hl : ms.length = 8) (h4 : N ≤ 4) : 1 ≤ parN ms N ∧ parN ms N ≤ 8 ∧ ∀ i, i < 2 * N → (ms.getD i 0).toNat < parN ms N := by
  have h := pt_par ms N h1 hA
  have b := ptL_bd ms hA (2 * N)
  refine ⟨by unfold parN; omega, by omega, fun i hi => ?_⟩
  have hg := mxL_ge ms (2 * N - 1) i (by omega)
  unfold parN
  rw [mx_take ms (2 * N) (2 * N - 1) (by omega)]
  have := hA i
  have := mxL_bd ms hA (2 * N - 1)
  omega
/-- How many of the first v parts go through. -/
def thC (N : Nat) (ms : List Int) : Nat → Int
  | 0 => 0
  | v + 1 => if 0 < (upL N ms (2 * N)).getD v 0 ∧ 0 < (loL N ms (2 * N)).getD v 0 then thC N ms v + 1 else thC N ms v
theorem thC_bd (N : Nat) (ms : List Int) (v : Nat) : 0 ≤ thC N ms v ∧ thC N ms v ≤ v := by
  induction v with
  | zero => simp [thC]
  | succ v ih => unfold thC; split <;> omega
end Go.Proofs.Ythjgcakpimbcbaa
