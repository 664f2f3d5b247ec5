/- The tests of a partition, the model's and the program's, agree. -/
import Derived.Test.YthjgcakpimbcbaaPom
import Derived.Test.YthjgcakpimbcbaaOn
import Derived.Test.YthjgcakpimbcbaaSpecA
namespace Go.Proofs.Ythjgcakpimbcbaa
open Go.RowKit
set_option linter.unusedVariables false
set_option maxRecDepth 100000 in
theorem isHt_any (n : Int) (w : World) :
    Calls Try.prog 20 #[.int .i64 n] w fun e w' => e = .returned (.bool (decide (1 ≤ n ∧ n ≤ 4))) ∧ w = w' := by
  go_enter Try.func20, Try.ntmps20
  go_wp2
  · go_ret
    exact ⟨by simp_all, rfl⟩
  · go_ret
    exact ⟨by simp_all; omega, rfl⟩
theorem isHt_t (n : Int) (w : World) (h : 1 ≤ n) (h' : n ≤ 4) :
    Calls Try.prog 20 #[.int .i64 n] w fun e w' => e = .returned (.bool true) ∧ w = w' :=
  (isHt_any n w).mono fun e w' ⟨he, hw⟩ => ⟨by rw [he]; simp [h, h'], hw⟩
theorem isHt_f (n : Int) (w : World) (h : n < 1 ∨ 4 < n) :
    Calls Try.prog 20 #[.int .i64 n] w fun e w' => e = .returned (.bool false) ∧ w = w' :=
  (isHt_any n w).mono fun e w' ⟨he, hw⟩ => ⟨by rw [he]; simp; omega, hw⟩
theorem rgk_out0 (n : Int) (ms : List Int) (k c : Nat) (h : rgk n ms k = some c) (hk : 2 * n ≤ k) (h0 : ms.getD k 0 = 0) : rgk n ms (k + 1) = some c := by
  rw [rgk, h]; simp only; rw [if_pos hk, if_pos h0]
theorem rgk_out1 (n : Int) (ms : List Int) (k c : Nat) (h : rgk n ms k = some c) (hk : 2 * n ≤ k) (h0 : ms.getD k 0 ≠ 0) : rgk n ms (k + 1) = none := by
  rw [rgk, h]; simp only; rw [if_pos hk, if_neg h0]
theorem rgk_gt (n : Int) (ms : List Int) (k c : Nat) (h : rgk n ms k = some c) (hk : ¬ 2 * n ≤ k) (h0 : ms.getD k 0 > c) : rgk n ms (k + 1) = none := by
  rw [rgk, h]; simp only; rw [if_neg hk, if_pos h0]
theorem rgk_eq (n : Int) (ms : List Int) (k c : Nat) (h : rgk n ms k = some c) (hk : ¬ 2 * n ≤ k) (h0 : ms.getD k 0 = c) : rgk n ms (k + 1) = some (c + 1) := by
  rw [rgk, h]; simp only; rw [if_neg hk, if_neg (by omega), if_pos h0]
theorem rgk_lt (n : Int) (ms : List Int) (k c : Nat) (h : rgk n ms k = some c) (hk : ¬ 2 * n ≤ k) (h0 : ms.getD k 0 < c) : rgk n ms (k + 1) = some c := by
  rw [rgk, h]; simp only; rw [if_neg hk, if_neg (by omega), if_neg (by omega)]
theorem isP_no (n : Int) (ms : List Int) (hms : ms.length = 8) (hb : Bytes ms) (h1 : 1 ≤ n) (h4 : n ≤ 4) (k c : Nat) (hk : k < 8) (h : rgk n ms k = some c) (h2 : rgk n ms (k + 1) = none) : isP n ms = false := by
  have := rg_no n ms (fun i => (hb.get i).1) (2 * n).toNat (by omega) hms (by omega) k c hk h h2
  unfold isP
  simp [this]
theorem isP_yes (n : Int) (ms : List Int) (hms : ms.length = 8) (hb : Bytes ms) (h1 : 1 ≤ n) (h4 : n ≤ 4) (c : Nat) (h : rgk n ms 8 = some c) : isP n ms = true := by
  have := rg_yes n ms (fun i => (hb.get i).1) (2 * n).toNat (by omega) hms (by omega) c h
  unfold isP
  simp [this, h1, h4]
theorem isP_bad (n : Int) (ms : List Int) (h : n < 1 ∨ 4 < n) : isP n ms = false := by
  unfold isP
  have : ¬ (1 ≤ n ∧ n ≤ 4) := by omega
  simp [this]
end Go.Proofs.Ythjgcakpimbcbaa
