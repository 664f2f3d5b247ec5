/- Loop values of braids: program, model and law. -/
import Derived.Test.YtnlbokigogbneaaNum
import Derived.Test.YtnlbokigogbneaaSpecA
import Derived.Test.YtnlbokigogbneaaImplA
namespace Go.Proofs.Ytnlbokigogbneaa
open Go.RowKit
set_option linter.unusedVariables false
/-- p is a prime, and a an A for it. -/
def baseB (p a : Int) : Bool := primeB p && decide (1 ≤ a ∧ a < p)
theorem baseB_t {p a : Int} (h : baseB p a = true) : primeB p = true ∧ 2 ≤ p ∧ p ≤ 97 ∧ 1 ≤ a ∧ a < p := by
  unfold baseB at h
  rw [Bool.and_eq_true, decide_eq_true_iff] at h
  exact ⟨h.1, (primeB_two h.1).1, (primeB_two h.1).2, h.2.1, h.2.2⟩
/-- The loop value. -/
def lvN (p a : Int) : Int := (-a * a - rcp p a * rcp p a) % p
theorem baseI_any (p a : Int) (w : World) : Calls Try.prog 25 #[.int .i64 p, .int .i64 a] w fun e w' => e = .returned (.bool (baseB p a)) ∧ w' = w := by
  have hq := Lib.hid (fun w => primeI_any p w)
  unfold baseB
  cases hb : primeB p with
  | false =>
    rw [hb] at hq
    clear hb
    rw [Bool.false_and]
    go_enter Try.func25, Try.ntmps25
    go_wp2_with (first
      | (go_at_call 39; ((with_reducible refine (hq.out _).mono ?_); rintro e w1 ⟨rfl, rfl⟩)))
    go_ret
    exact ⟨rfl, rfl⟩
  | true =>
    rw [hb] at hq
    clear hb
    rw [Bool.true_and]
    by_cases h1 : 1 ≤ a
    · by_cases h2 : a < p
      · rw [show decide (1 ≤ a ∧ a < p) = true by simp; omega]
        go_enter Try.func25, Try.ntmps25
        go_wp2_with (first
          | (go_at_call 39; ((with_reducible refine (hq.out _).mono ?_); rintro e w1 ⟨rfl, rfl⟩)))
        go_ret
        exact ⟨by first | rfl | (simp <;> omega), rfl⟩
      · rw [show decide (1 ≤ a ∧ a < p) = false by simp; omega]
        go_enter Try.func25, Try.ntmps25
        go_wp2_with (first
          | (go_at_call 39; ((with_reducible refine (hq.out _).mono ?_); rintro e w1 ⟨rfl, rfl⟩)))
        go_ret
        exact ⟨by first | rfl | (simp <;> omega), rfl⟩
    · rw [show decide (1 ≤ a ∧ a < p) = false by simp; omega]
      go_enter Try.func25, Try.ntmps25
      go_wp2_with (first
        | (go_at_call 39; ((with_reducible refine (hq.out _).mono ?_); rintro e w1 ⟨rfl, rfl⟩)))
      go_ret
      exact ⟨by first | rfl | (simp <;> omega), rfl⟩
theorem lv_bound {p a b : Int} (hp2 : p ≤ 97) (a0 : 0 ≤ a) (a1 : a < p) (b0 : 0 ≤ b) (b1 : b < p) : -9409 ≤ -a * a ∧ -a * a ≤ 0 ∧ 0 ≤ b * b ∧ b * b ≤ 9409 ∧ -9409 * 2 ≤ -a * a - b * b ∧ -a * a - b * b ≤ 0 := by
  have h1 : a * a ≤ 97 * a := Int.mul_le_mul_of_nonneg_right (by omega) a0
  have h2 : b * b ≤ 97 * b := Int.mul_le_mul_of_nonneg_right (by omega) b0
  have h3 : 0 ≤ a * a := Int.mul_nonneg a0 a0
  have h4 : 0 ≤ b * b := Int.mul_nonneg b0 b0
  have h5 : -a * a = -(a * a) := by rw [Int.neg_mul]
  omega
/-- The cells of a skein. -/
def skc (p a n : Int) : Array Value := #[.int .i64 a, .int .i64 (rcp p a), .int .i64 p, .int .i64 (lvN p a), .int .i64 n, .slice none 0 0]
end Go.Proofs.Ytnlbokigogbneaa
