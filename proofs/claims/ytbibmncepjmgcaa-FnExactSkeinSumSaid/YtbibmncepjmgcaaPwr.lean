/- l02Power, l04Numbers. -/
import Derived.Test.YtbibmncepjmgcaaKd
import Derived.Test.YtbibmncepjmgcaaKc
import Derived.Test.YtbibmncepjmgcaaKa
namespace Go.Proofs.Ytbibmncepjmgcaa
open Go.RowKit
set_option linter.unusedVariables false
set_option linter.unusedSimpArgs false
set_option maxRecDepth 100000 in
theorem powS_any (p k : Int) (n : Nat) (w : World) (hp : 2 ≤ p) (hp2 : p ≤ 97) (hk0 : 0 ≤ k) (hk1 : k < p) (hn : n ≤ 1000) :
    Calls Try.prog 57 #[.int .i64 p, .int .i64 k, .int .i64 n] w fun e w' => e = .returned (.int .i64 (pw p k n)) ∧ w = w' := by
  have e0 : (p == 0) = false := by simp; omega
  have e1 : Int.tmod 1 p = 1 := by rw [Int.tmod_eq_emod_of_nonneg (by omega)]; exact Int.emod_eq_of_lt (by omega) (by omega)
  have hr := Lib.hid (pw_range p k hp)
  go_enter Try.func57, Try.ntmps57
  go_wp2
  go_loopw [2, 7] (fun i v wr => ∃ j : Nat, j ≤ n ∧ i = .int .i64 ((n - j : Nat) : Int) ∧ v = .int .i64 (pw p k j) ∧ wr = w) (fun i _ _ => (intOf i).toNat)
  case atStart => exact ⟨0, by omega, rfl, rfl, rfl⟩
  case round =>
    obtain ⟨j, hj, rfl, rfl, rfl⟩ := hrel
    by_cases hlt : j < n
    · obtain ⟨m, hm⟩ : ∃ m, n - j = m + 1 := ⟨n - j - 1, by omega⟩
      rw [hm]
      have r := hr.out j
      have m1 := bnd_mul p (pw p k j) k 0 hp hp2 r.1 r.2 hk0 hk1
      have hx : Hid (pw p k (j + 1) = pw p k j * k % p) := Lib.hid rfl
      have hm' := Lib.hid (show m = n - (j + 1) by omega)
      generalize pw p k j = x at *
      go_wp2
      go_roundw
      case rel => exact ⟨j + 1, by omega, by rw [← hm'.out] <;> simp, by rw [hx.out], trivial⟩
      case measure => simp [intOf]
    · obtain rfl : j = n := by omega
      rw [Nat.sub_self]
      go_wp2
      go_ret
      exact ⟨rfl, rfl⟩
end Go.Proofs.Ytbibmncepjmgcaa
