/- Contracts of the program's smallest functions: sizes, new lists of mates, two points joined, a diagram out of its mates. -/
import Derived.Test.YthddpedgcgejnaaBase
namespace Go.Proofs.Ythddpedgcgejnaa
open Go.RowKit
set_option maxRecDepth 100000 in
theorem isSize_any (n : Int) (w : World) :
    Calls Try.prog 34 #[.int .i64 n] w fun e w' => e = .returned (.bool (decide (1 ≤ n ∧ n ≤ 8))) ∧ w = w' := by
  go_enter Try.func34, Try.ntmps34
  go_wp2
  · go_ret
    exact ⟨by simp_all, rfl⟩
  · go_ret
    exact ⟨by simp_all; omega, rfl⟩
theorem isSize_t (n : Int) (w : World) (h : 1 ≤ n) (h' : n ≤ 8) :
    Calls Try.prog 34 #[.int .i64 n] w fun e w' => e = .returned (.bool true) ∧ w = w' :=
  (isSize_any n w).mono fun e w' ⟨he, hw⟩ => ⟨by rw [he]; simp [h, h'], hw⟩
theorem isSize_f (n : Int) (w : World) (h : n < 1 ∨ 8 < n) :
    Calls Try.prog 34 #[.int .i64 n] w fun e w' => e = .returned (.bool false) ∧ w = w' :=
  (isSize_any n w).mono fun e w' ⟨he, hw⟩ => ⟨by rw [he]; simp; omega, hw⟩
end Go.Proofs.Ythddpedgcgejnaa
