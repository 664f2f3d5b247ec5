/- Contracts of the model's smallest functions: ranges, and two points joined. -/
import Derived.Test.YtmcffhafonemeaaBase
namespace Go.Proofs.Ytmcffhafonemeaa
open Go.RowKit
set_option maxRecDepth 100000 in
theorem inS_any (n a b : Int) (w : World) :
    Calls Try.prog 42 #[.int .i64 n, .int .i64 a, .int .i64 b] w fun e w' => e = .returned (.bool (decide (a ≤ n ∧ n ≤ b))) ∧ w = w' := by
  go_enter Try.func42, Try.ntmps42
  go_wp2
  · go_ret
    exact ⟨by simp_all, rfl⟩
  · go_ret
    exact ⟨by simp_all; omega, rfl⟩
theorem inS_t (n a b : Int) (w : World) (h : a ≤ n) (h' : n ≤ b) :
    Calls Try.prog 42 #[.int .i64 n, .int .i64 a, .int .i64 b] w fun e w' => e = .returned (.bool true) ∧ w = w' :=
  (inS_any n a b w).mono fun e w' ⟨he, hw⟩ => ⟨by rw [he]; simp [h, h'], hw⟩
theorem inS_f (n a b : Int) (w : World) (h : n < a ∨ b < n) :
    Calls Try.prog 42 #[.int .i64 n, .int .i64 a, .int .i64 b] w fun e w' => e = .returned (.bool false) ∧ w = w' :=
  (inS_any n a b w).mono fun e w' ⟨he, hw⟩ => ⟨by rw [he]; simp; omega, hw⟩
end Go.Proofs.Ytmcffhafonemeaa
