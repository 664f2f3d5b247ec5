/- areArches: a number of arches in bounds. -/
import Derived.Test.YtbpecjfiilkobaaImplA
namespace Go.Proofs.Ytbpecjfiilkobaa
open Go.RowKit
set_option linter.unusedVariables false
set_option linter.unusedSimpArgs false
set_option maxRecDepth 100000 in
theorem areI_any (m t : Int) (w : World) :
    Calls Try.prog 15 #[.int .i64 m, .int .i64 t] w fun e w' => e = .returned (.bool (decide (1 ≤ m ∧ m ≤ t))) ∧ w = w' := by
  go_enter Try.func15, Try.ntmps15
  go_wp2
  · go_ret
    exact ⟨by simp_all, rfl⟩
  · go_ret
    exact ⟨by simp_all; omega, rfl⟩
theorem areI_t (m t : Int) (w : World) (h : 1 ≤ m) (h' : m ≤ t) :
    Calls Try.prog 15 #[.int .i64 m, .int .i64 t] w fun e w' => e = .returned (.bool true) ∧ w = w' :=
  (areI_any m t w).mono fun e w' ⟨he, hw⟩ => ⟨by rw [he]; simp [h, h'], hw⟩
theorem areI_f (m t : Int) (w : World) (h : m < 1 ∨ t < m) :
    Calls Try.prog 15 #[.int .i64 m, .int .i64 t] w fun e w' => e = .returned (.bool false) ∧ w = w' :=
  (areI_any m t w).mono fun e w' ⟨he, hw⟩ => ⟨by rw [he]; simp; omega, hw⟩
end Go.Proofs.Ytbpecjfiilkobaa
