/- Sums of entries with weights, plain. -/
import Derived.Test.YtnlbokigogbneaaEnm
namespace Go.Proofs.Ytnlbokigogbneaa
open Go.RowKit
set_option linter.unusedVariables false
set_option linter.unusedSimpArgs false
/-- How many letters of a word's number are 1. -/
def ones (u : Nat) : Nat := u % 2 + u / 2 % 2 + u / 4 % 2 + u / 8 % 2 + u / 16 % 2 + u / 32 % 2
def cntN (u n : Nat) : Nat → Nat
  | 0 => 0
  | i + 1 => cntN u n i + u / 2 ^ (n - 1 - i) % 2
theorem ones_cnt : ∀ n : Nat, n < 7 → ∀ u : Nat, u < 2 ^ n → cntN u n n = ones u := by decide +kernel
theorem cnt_le (u n : Nat) (i : Nat) : cntN u n i ≤ i := by
  induction i with
  | zero => exact Nat.le_refl _
  | succ i ih => unfold cntN; omega
theorem ltr_nat (u s : Nat) : ltr (u : Int) s = ((u / 2 ^ s % 2 : Nat) : Int) := by
  unfold ltr
  rw [Int.toNat_natCast]
  push_cast
  rfl
/-- What the program's powers are. -/
def pwt (p k : Int) : Nat → Int
  | 0 => 1
  | j + 1 => (pwt p k j * k).tmod p
theorem tmod_cg (p x : Int) : x.tmod p % p = x % p := by
  rw [Int.tmod_def, Int.sub_mul_emod_self_left]
theorem pwt_bd (p k : Int) (hp : 2 ≤ p) (j : Nat) : -p < pwt p k j ∧ pwt p k j < p := by
  cases j with
  | zero => unfold pwt; omega
  | succ j =>
    unfold pwt
    have h1 := Int.lt_tmod_of_pos (pwt p k j * k) (show 0 < p by omega)
    have h2 := Int.tmod_lt_of_pos (pwt p k j * k) (show 0 < p by omega)
    omega
theorem mul_cg {p a b c d : Int} (h : a % p = b % p) (h' : c % p = d % p) : a * c % p = b * d % p := by
  rw [Int.mul_emod, h, h', ← Int.mul_emod]
theorem add_cg {p a b c d : Int} (h : a % p = b % p) (h' : c % p = d % p) : (a + c) % p = (b + d) % p := by
  rw [Int.add_emod, h, h', ← Int.add_emod]
theorem pwt_cg (p k : Int) (j : Nat) : pwt p k j % p = k ^ j % p := by
  induction j with
  | zero => rw [Int.pow_zero]; rfl
  | succ j ih => rw [pwt, tmod_cg, Int.pow_succ]; exact mul_cg ih rfl
theorem pow_cg {p a b : Int} (h : a % p = b % p) (j : Nat) : a ^ j % p = b ^ j % p := by
  induction j with
  | zero => rw [Int.pow_zero, Int.pow_zero]
  | succ j ih => rw [Int.pow_succ, Int.pow_succ]; exact mul_cg ih h
theorem pwt_one (p : Int) (hp : 2 ≤ p) (j : Nat) : pwt p 1 j = 1 := by
  induction j with
  | zero => rfl
  | succ j ih => rw [pwt, ih]; exact Int.tmod_eq_of_lt (by omega) (by omega)
/-- The model's number behind i letters. -/
def ow (p z o e : Int) (u n : Nat) : Nat → Int
  | 0 => e
  | i + 1 => ow p z o e u n i * (if ltr (u : Int) ((n - 1 - i : Nat) : Int) = 1 then o else z) % p
theorem ow_bd (p z o e : Int) (u n : Nat) (hp : 2 ≤ p) (h0 : 0 ≤ e) (h1 : e < p) (i : Nat) : 0 ≤ ow p z o e u n i ∧ ow p z o e u n i < p := by
  cases i with
  | zero => exact ⟨h0, h1⟩
  | succ i => unfold ow; exact ⟨Int.emod_nonneg _ (by omega), Int.emod_lt_of_pos _ (by omega)⟩
theorem ow_cg (p z o e : Int) (u n : Nat) (i : Nat) : ow p z o e u n i % p = e * (z ^ (i - cntN u n i) * o ^ cntN u n i) % p := by
  induction i with
  | zero => simp [ow, cntN]
  | succ i ih =>
    have hl := cnt_le u n i
    rw [ow, Int.emod_emod, cntN, ltr_nat]
    rw [mul_cg ih rfl]
    have hb : u / 2 ^ (n - 1 - i) % 2 = 0 ∨ u / 2 ^ (n - 1 - i) % 2 = 1 := by omega
    rcases hb with h | h
    · rw [h, if_neg (by simp), show i + 1 - (cntN u n i + 0) = (i - cntN u n i) + 1 by omega, Nat.add_zero, Int.pow_succ]
      congr 1
      simp only [Int.mul_comm, Int.mul_left_comm, Int.mul_assoc, Nat.add_zero]
    · rw [h, if_pos (by simp), show i + 1 - (cntN u n i + 1) = i - cntN u n i by omega, Int.pow_succ]
      congr 1
      simp only [Int.mul_comm, Int.mul_left_comm, Int.mul_assoc]
/-- The program's sum over the first k words. -/
def trI (p z o : Int) (n : Nat) (E : Nat → Int) : Nat → Int
  | 0 => 0
  | u + 1 => trI p z o n E u + E u * (pwt p z (n - ones u) * pwt p o (ones u))
/-- The model's. -/
def trS (p : Int) (O : Nat → Int) : Nat → Int
  | 0 => 0
  | u + 1 => (trS p O u + O u) % p
theorem trS_bd (p : Int) (O : Nat → Int) (hp : 2 ≤ p) (k : Nat) : 0 ≤ trS p O k ∧ trS p O k < p := by
  cases k with
  | zero => unfold trS; omega
  | succ k => unfold trS; exact ⟨Int.emod_nonneg _ (by omega), Int.emod_lt_of_pos _ (by omega)⟩
theorem tr_same (p z o z' o' : Int) (n : Nat) (hn : n < 7) (E : Nat → Int) (hp : 2 ≤ p) (hz : z % p = z' % p) (ho : o % p = o' % p) (k : Nat) (hk : k ≤ 2 ^ n) :
    trI p z o n E k % p = trS p (fun u => ow p z' o' (E u) u n n) k := by
  induction k with
  | zero => simp [trI, trS]
  | succ k ih =>
    have hc := ones_cnt n hn k (by omega)
    rw [trI, trS]
    refine add_cg ?_ ?_
    · rw [ih (by omega), Int.emod_eq_of_lt (trS_bd p _ hp k).1 (trS_bd p _ hp k).2]
    · rw [ow_cg, hc]
      refine mul_cg rfl (mul_cg ?_ ?_)
      · rw [pwt_cg]; exact pow_cg hz _
      · rw [pwt_cg]; exact pow_cg ho _
theorem tr_plain (p : Int) (n : Nat) (E : Nat → Int) (hp : 2 ≤ p) (k : Nat) : trI p 1 1 n E k % p = trS p E k := by
  induction k with
  | zero => simp [trI, trS]
  | succ k ih =>
    rw [trI, trS, pwt_one p hp, pwt_one p hp]
    refine add_cg ?_ (by simp)
    rw [ih, Int.emod_eq_of_lt (trS_bd p _ hp k).1 (trS_bd p _ hp k).2]
theorem trI_bd (p z o : Int) (n : Nat) (E : Nat → Int) (hp : 2 ≤ p) (hp2 : p ≤ 97) (hE : ∀ u, 0 ≤ E u ∧ E u < p) (k : Nat) : -1000000 * k ≤ trI p z o n E k ∧ trI p z o n E k ≤ 1000000 * k := by
  induction k with
  | zero => simp [trI]
  | succ k ih =>
    have a := pwt_bd p z hp (n - ones k)
    have b := pwt_bd p o hp (ones k)
    have c := hE k
    rw [trI]
    generalize pwt p z (n - ones k) = x at *
    generalize pwt p o (ones k) = y at *
    have m1 : x * y ≤ 97 * 97 ∧ -(97 * 97) ≤ x * y := by
      have h1 := Int.mul_le_mul_of_nonneg_left (show y ≤ 97 by omega) (show 0 ≤ x + 97 by omega)
      have h2 := Int.mul_le_mul_of_nonneg_left (show -97 ≤ y by omega) (show 0 ≤ x + 97 by omega)
      have h3 := Int.mul_le_mul_of_nonneg_left (show y ≤ 97 by omega) (show 0 ≤ 97 - x by omega)
      have h4 := Int.mul_le_mul_of_nonneg_left (show -97 ≤ y by omega) (show 0 ≤ 97 - x by omega)
      simp only [Int.add_mul, Int.sub_mul] at h1 h2 h3 h4
      omega
    generalize x * y = t at *
    have m2 : E k * t ≤ 97 * 9409 ∧ -(97 * 9409) ≤ E k * t := by
      have h1 := Int.mul_le_mul_of_nonneg_left (show t ≤ 9409 by omega) c.1
      have h2 := Int.mul_le_mul_of_nonneg_left (show -9409 ≤ t by omega) c.1
      omega
    push_cast
    omega
end Go.Proofs.Ytnlbokigogbneaa
