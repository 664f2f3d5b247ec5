/- Entries of diagrams at words, plain: letters, factors, the two ways of counting. -/
import Derived.Test.YtnlbokigogbneaaIsS
import Derived.Laws.BitsAllLaws
namespace Go.Proofs.Ytnlbokigogbneaa
open Go.RowKit
set_option linter.unusedVariables false
/-- A letter of a word's number, s places from the right. -/
def ltr (u s : Int) : Int := u / 2 ^ s.toNat % 2
/-- The letter at a point. -/
def ptl (n u v i : Int) : Int := if i < n then ltr u (n - 1 - i) else ltr v (2 * n - 1 - i)
theorem ltr_bit (u s : Int) : ltr u s = 0 ∨ ltr u s = 1 := by unfold ltr; omega
theorem ptl_bit (n u v i : Int) : ptl n u v i = 0 ∨ ptl n u v i = 1 := by unfold ptl; split <;> exact ltr_bit _ _
/-- Both words as one number. -/
theorem ltr_both (n u v i : Int) (h1 : 1 ≤ n) (h8 : n ≤ 8) (u0 : 0 ≤ u) (v0 : 0 ≤ v) (v1 : v < 2 ^ n.toNat) (i0 : 0 ≤ i) (i1 : i < 2 * n) : ltr (u * 2 ^ n.toNat + v) (2 * n - 1 - i) = ptl n u v i := by
  unfold ptl ltr
  obtain ⟨N, rfl⟩ : ∃ N : Nat, n = N := ⟨n.toNat, by omega⟩
  rw [Int.toNat_natCast] at *
  have hN : (0 : Int) < 2 ^ N := Int.pow_pos (by omega)
  split
  · obtain ⟨s, hs⟩ : ∃ s : Nat, (N : Int) - 1 - i = s := ⟨(N - 1 - i).toNat, by omega⟩
    rw [show (2 * (N : Int) - 1 - i).toNat = N + s by omega, hs, Int.toNat_natCast, Int.pow_add, ← Int.ediv_ediv_of_nonneg (by omega), Int.add_comm, Int.add_mul_ediv_right _ _ (by omega), Int.ediv_eq_zero_of_lt v0 v1, Int.zero_add]
  · obtain ⟨s, hs⟩ : ∃ s : Nat, 2 * (N : Int) - 1 - i = s := ⟨(2 * (N : Int) - 1 - i).toNat, by omega⟩
    obtain ⟨t, ht⟩ : ∃ t : Nat, N = s + 1 + t := ⟨N - 1 - s, by omega⟩
    have hp : (0 : Int) < 2 ^ s := Int.pow_pos (by omega)
    rw [hs, Int.toNat_natCast, show u * 2 ^ N + v = v + (u * 2 ^ t * 2) * 2 ^ s by rw [ht, Int.pow_add, Int.pow_add]; simp only [Int.pow_succ, Int.pow_zero, Int.one_mul]; rw [Int.add_comm]; simp only [Int.mul_comm, Int.mul_left_comm, Int.mul_assoc], Int.add_mul_ediv_right _ _ (by omega)]
    omega
/-- What the program makes of a number at a line that does not go through. -/
def stpI (p q r : Int) (up : Bool) (a e : Int) : Int := (e * (if up then (if a = 1 then q else -1) else (if a = 0 then r else -1))) % p
/-- What the model makes of it. -/
def stpM (p q r : Int) (up : Bool) (a e : Int) : Int := if up then (if a = 1 then e * q % p else p - e) else (if a = 0 then e * r % p else p - e)
theorem stp_same (p q r : Int) (up : Bool) (a o : Int) : stpI p q r up a (o % p) = stpM p q r up a o % p := by
  unfold stpI stpM
  have h : o % p * -1 % p = (p - o) % p := by
    rw [Int.mul_neg, Int.mul_one, ← Int.add_mul_emod_self_left (-(o % p)) p 1, Int.mul_one, Int.add_comm, ← Int.sub_eq_add_neg, Int.sub_emod_emod]
  cases up <;> simp only [if_true, if_false, Bool.false_eq_true] <;> split <;> first | exact h | rw [Int.emod_emod, Int.mul_emod, Int.emod_emod, ← Int.mul_emod]
theorem stpM_bd (p q r : Int) (up : Bool) (a o : Int) (hp : 2 ≤ p) (h0 : 0 ≤ o) (h1 : o ≤ p) : 0 ≤ stpM p q r up a o ∧ stpM p q r up a o ≤ p := by
  have e1 := Int.emod_nonneg (o * q) (show p ≠ 0 by omega)
  have e2 := Int.emod_lt_of_pos (o * q) (show 0 < p by omega)
  have e3 := Int.emod_nonneg (o * r) (show p ≠ 0 by omega)
  have e4 := Int.emod_lt_of_pos (o * r) (show 0 < p by omega)
  unfold stpM
  cases up <;> simp only [if_true, if_false, Bool.false_eq_true] <;> split <;> omega
theorem stpI_bd (p q r : Int) (up : Bool) (a e : Int) (hp : 2 ≤ p) : 0 ≤ stpI p q r up a e ∧ stpI p q r up a e < p := by
  unfold stpI
  exact ⟨Int.emod_nonneg _ (by omega), Int.emod_lt_of_pos _ (by omega)⟩
/-- What f points from i on make of a number. -/
def enW (st : Bool → Int → Int → Int) (p n : Int) (ms : List Int) (u v : Int) : Nat → Int → Int → Int
  | 0, _, e => e % p
  | f + 1, i, e =>
    if mate ms i < i then enW st p n ms u v f (i + 1) e
    else if i < n ∧ n ≤ mate ms i then (if ptl n u v i = ptl n u v (mate ms i) then enW st p n ms u v f (i + 1) e else 0)
    else if ptl n u v i = ptl n u v (mate ms i) then 0
    else enW st p n ms u v f (i + 1) (st (decide (mate ms i < n)) (ptl n u v i) e)
theorem enW_same (p q r n : Int) (ms : List Int) (u v : Int) (f : Nat) (i o : Int) : enW (stpI p q r) p n ms u v f i (o % p) = enW (stpM p q r) p n ms u v f i o := by
  induction f generalizing i o with
  | zero => simp [enW]
  | succ f ih =>
    unfold enW
    rw [ih, stp_same, ih]
/-- The entry. -/
def entN (p q r n : Int) (ms : List Int) (u v : Int) : Int := enW (stpM p q r) p n ms u v (2 * n).toNat 0 1
theorem ent_one (p q r n : Int) (ms : List Int) (u v : Int) (hp : 2 ≤ p) : enW (stpI p q r) p n ms u v (2 * n).toNat 0 1 = entN p q r n ms u v := by
  unfold entN
  rw [← enW_same, Int.emod_eq_of_lt (by omega) (by omega)]
theorem enW_bd (st : Bool → Int → Int → Int) (p n : Int) (ms : List Int) (u v : Int) (hp : 2 ≤ p) (f : Nat) (i e : Int) : 0 ≤ enW st p n ms u v f i e ∧ enW st p n ms u v f i e < p := by
  induction f generalizing i e with
  | zero => unfold enW; exact ⟨Int.emod_nonneg _ (by omega), Int.emod_lt_of_pos _ (by omega)⟩
  | succ f ih =>
    unfold enW
    split
    · exact ih _ _
    · split <;> split <;> first | exact ih _ _ | omega
theorem ent_bd (p q r n : Int) (ms : List Int) (u v : Int) (hp : 2 ≤ p) : 0 ≤ entN p q r n ms u v ∧ entN p q r n ms u v < p := enW_bd _ _ _ _ _ _ hp _ _ _
end Go.Proofs.Ytnlbokigogbneaa
