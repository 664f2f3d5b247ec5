/- Arithmetic modulo a prime: remainders, powers, inverses, of the program and of the model. -/
import Derived.Test.YtdmgmhjclagnpaaChebN
import Derived.Test.YtdmgmhjclagnpaaSpecA
import Derived.IntWalk
namespace Go.Proofs.Ytdmgmhjclagnpaa
open Go.RowKit
set_option linter.unusedVariables false
theorem bnd_mul (p a b x : Int) (hp : 2 ≤ p) (hp2 : p ≤ 97) (a0 : 0 ≤ a) (a1 : a < p) (b0 : 0 ≤ b) (b1 : b < p) : 0 ≤ a * b ∧ a * b ≤ 9409 := by
  refine ⟨Int.mul_nonneg a0 b0, ?_⟩
  have h1 : a * b ≤ 97 * b := Int.mul_le_mul_of_nonneg_right (by omega) b0
  omega
set_option maxRecDepth 100000 in
theorem remI_any (p x : Int) (w : World) (hp : 2 ≤ p) (hp2 : p ≤ 97) (h0 : -1000000000000 ≤ x) (h1 : x ≤ 1000000000000) :
    Calls Try.prog 80 #[.int .i64 p, .int .i64 x] w fun e w' => e = .returned (.int .i64 (x % p)) ∧ w = w' := by
  have hl := Lib.hid (lmod p x (by omega))
  have h2 : -p < x.tmod p := by
    have := Int.lt_tmod_of_pos x (show 0 < p by omega); omega
  have h3 : x.tmod p < p := Int.tmod_lt_of_pos x (by omega)
  have e0 : (p == 0) = false := by simp; omega
  have e1 : IntKind.i64.wrap (x.tmod p) = x.tmod p := IntWalk.i64_in _ (by omega)
  have e2 : IntKind.i64.wrap (x.tmod p + p) = x.tmod p + p := IntWalk.i64_in _ (by omega)
  rw [← hl.out]
  generalize hy : x.tmod p = y at *
  have e3 : IntKind.i64.wrap ((y + p).tmod p) = (y + p).tmod p := by
    rw [Int.tmod_eq_emod_of_nonneg (by omega)]
    have := Int.emod_nonneg (y + p) (show p ≠ 0 by omega)
    have := Int.emod_lt_of_pos (y + p) (show 0 < p by omega)
    exact IntWalk.i64_in _ (by omega)
  go_enter Try.func80, Try.ntmps80
  go_wp2
  go_ret
  refine ⟨?_, rfl⟩
  show Ending.returned (.int .i64 ((y + p) % p)) = _
  rw [Int.tmod_eq_emod_of_nonneg (by omega)]
set_option maxRecDepth 100000 in
theorem modS_any (p x : Int) (w : World) (hp : 2 ≤ p) (hp2 : p ≤ 97) (h0 : -1000000000000 ≤ x) (h1 : x ≤ 1000000000000) :
    Calls Try.prog 65 #[.int .i64 p, .int .i64 x] w fun e w' => e = .returned (.int .i64 (x % p)) ∧ w = w' := by
  have hl := Lib.hid (lmod p x (by omega))
  have h2 : -p < x.tmod p := by
    have := Int.lt_tmod_of_pos x (show 0 < p by omega); omega
  have h3 : x.tmod p < p := Int.tmod_lt_of_pos x (by omega)
  have e0 : (p == 0) = false := by simp; omega
  have e1 : IntKind.i64.wrap (x.tmod p) = x.tmod p := IntWalk.i64_in _ (by omega)
  have e2 : IntKind.i64.wrap (x.tmod p + p) = x.tmod p + p := IntWalk.i64_in _ (by omega)
  rw [← hl.out]
  generalize hy : x.tmod p = y at *
  have e3 : IntKind.i64.wrap ((y + p).tmod p) = (y + p).tmod p := by
    rw [Int.tmod_eq_emod_of_nonneg (by omega)]
    have := Int.emod_nonneg (y + p) (show p ≠ 0 by omega)
    have := Int.emod_lt_of_pos (y + p) (show 0 < p by omega)
    exact IntWalk.i64_in _ (by omega)
  go_enter Try.func65, Try.ntmps65
  go_wp2
  go_ret
  refine ⟨?_, rfl⟩
  show Ending.returned (.int .i64 ((y + p) % p)) = _
  rw [Int.tmod_eq_emod_of_nonneg (by omega)]
theorem primeB_two {p : Int} (h : primeB p = true) : 2 ≤ p ∧ p ≤ 97 := by
  unfold primeB at h; rw [decide_eq_true_iff] at h; exact ⟨h.1, h.2.1⟩
set_option maxRecDepth 100000 in
theorem powI_any (p k : Int) (n : Nat) (w : World) (hp : 2 ≤ p) (hp2 : p ≤ 97) (hk0 : 0 ≤ k) (hk1 : k < p) (hn : n ≤ 1000) :
    Calls Try.prog 70 #[.int .i64 p, .int .i64 k, .int .i64 n] w fun e w' => e = .returned (.int .i64 (pw p k n)) ∧ w = w' := by
  have e0 : (p == 0) = false := by simp; omega
  have hr := Lib.hid (pw_range p k hp)
  go_enter Try.func70, Try.ntmps70
  go_wp2
  go_loopw [7, 9] (fun v i wr => ∃ j : Nat, j ≤ n ∧ i = .int .i64 j ∧ v = .int .i64 (pw p k j) ∧ wr = w) (fun _ i _ => ((n : Int) - intOf i).toNat)
  case atStart => exact ⟨0, by omega, rfl, rfl, rfl⟩
  case round =>
    obtain ⟨j, hj, rfl, rfl, rfl⟩ := hrel
    by_cases hlt : j < n
    · have r := hr.out j
      have m1 := bnd_mul p (pw p k j) k 0 hp hp2 r.1 r.2 hk0 hk1
      have hx : Hid (pw p k (j + 1) = pw p k j * k % p) := Lib.hid rfl
      generalize pw p k j = x at *
      go_wp2
      go_roundw
      case rel => exact ⟨j + 1, by omega, by go_num, by rw [hx.out], trivial⟩
      case measure => simp [intOf]; omega
    · obtain rfl : j = n := by omega
      go_wp2
      go_ret
      exact ⟨rfl, rfl⟩
/-- A number that is an int64. -/
theorem of_wf {a : Int} (h : (Lit.int IntKind.i64 a).wf = true) : -9223372036854775808 ≤ a ∧ a ≤ 9223372036854775807 := by
  have h' : (decide (IntKind.i64.min ≤ a) && decide (a ≤ IntKind.i64.max)) = true := h
  rw [Bool.and_eq_true, decide_eq_true_iff, decide_eq_true_iff, show IntKind.i64.min = -9223372036854775808 by decide, show IntKind.i64.max = 9223372036854775807 by decide] at h'
  exact h'
end Go.Proofs.Ytdmgmhjclagnpaa
