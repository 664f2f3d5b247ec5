/- The tests of a partition, the model's and the program's, agree. -/
import Derived.Test.YtlgdeciikliihaaPom
import Derived.Test.YtlgdeciikliihaaOn
import Derived.Test.YtlgdeciikliihaaSpecA
namespace Go.Proofs.Ytlgdeciikliihaa
open Go.RowKit
set_option linter.unusedVariables false
set_option maxRecDepth 100000 in
theorem isHt_any (n : Int) (w : World) :
    Calls Try.prog 53 #[.int .i64 n] w fun e w' => e = .returned (.bool (decide (1 ≤ n ∧ n ≤ 4))) ∧ w = w' := by
  go_enter Try.func53, Try.ntmps53
  go_wp2
  · go_ret
    exact ⟨by simp_all, rfl⟩
  · go_ret
    exact ⟨by simp_all; omega, rfl⟩
theorem isHt_t (n : Int) (w : World) (h : 1 ≤ n) (h' : n ≤ 4) :
    Calls Try.prog 53 #[.int .i64 n] w fun e w' => e = .returned (.bool true) ∧ w = w' :=
  (isHt_any n w).mono fun e w' ⟨he, hw⟩ => ⟨by rw [he]; simp [h, h'], hw⟩
theorem isHt_f (n : Int) (w : World) (h : n < 1 ∨ 4 < n) :
    Calls Try.prog 53 #[.int .i64 n] w fun e w' => e = .returned (.bool false) ∧ w = w' :=
  (isHt_any n w).mono fun e w' ⟨he, hw⟩ => ⟨by rw [he]; simp; omega, hw⟩
theorem rgk_out0 (n : Int) (ms : List Int) (k c : Nat) (h : rgk n ms k = some c) (hk : 2 * n ≤ k) (h0 : ms.getD k 0 = 0) : rgk n ms (k + 1) = some c := by
  rw [rgk, h]; simp only; rw [if_pos hk, if_pos h0]
theorem rgk_out1 (n : Int) (ms : List Int) (k c : Nat) (h : rgk n ms k = some c) (hk : 2 * n ≤ k) (h0 : ms.getD k 0 ≠ 0) : rgk n ms (k + 1) = none := by
  rw [rgk, h]; simp only; rw [if_pos hk, if_neg h0]
theorem rgk_gt (n : Int) (ms : List Int) (k c : Nat) (h : rgk n ms k = some c) (hk : ¬ 2 * n ≤ k) (h0 : ms.getD k 0 > c) : rgk n ms (k + 1) = none := by
  rw [rgk, h]; simp only; rw [if_neg hk, if_pos h0]
theorem rgk_eq (n : Int) (ms : List Int) (k c : Nat) (h : rgk n ms k = some c) (hk : ¬ 2 * n ≤ k) (h0 : ms.getD k 0 = c) : rgk n ms (k + 1) = some (c + 1) := by
  rw [rgk, h]; simp only; rw [if_neg hk, if_neg (by omega), if_pos h0]
theorem rgk_lt (n : Int) (ms : List Int) (k c : Nat) (h : rgk n ms k = some c) (hk : ¬ 2 * n ≤ k) (h0 : ms.getD k 0 < c) : rgk n ms (k + 1) = some c := by
  rw [rgk, h]; simp only; rw [if_neg hk, if_neg (by omega), if_neg (by omega)]
theorem isP_no (n : Int) (ms : List Int) (hms : ms.length = 8) (hb : Bytes ms) (h1 : 1 ≤ n) (h4 : n ≤ 4) (k c : Nat) (hk : k < 8) (h : rgk n ms k = some c) (h2 : rgk n ms (k + 1) = none) : isP n ms = false := by
  have := rg_no n ms (fun i => (hb.get i).1) (2 * n).toNat (by omega) hms (by omega) k c hk h h2
  unfold isP
  simp [this]
theorem isP_yes (n : Int) (ms : List Int) (hms : ms.length = 8) (hb : Bytes ms) (h1 : 1 ≤ n) (h4 : n ≤ 4) (c : Nat) (h : rgk n ms 8 = some c) : isP n ms = true := by
  have := rg_yes n ms (fun i => (hb.get i).1) (2 * n).toNat (by omega) hms (by omega) c h
  unfold isP
  simp [this, h1, h4]
theorem isP_bad (n : Int) (ms : List Int) (h : n < 1 ∨ 4 < n) : isP n ms = false := by
  unfold isP
  have : ¬ (1 ≤ n ∧ n ≤ 4) := by omega
  simp [this]
set_option maxRecDepth 100000 in
set_option maxHeartbeats 1000000 in
theorem isPS_ok (n : Int) (ms : List Int) (hms : ms.length = 8) (hb : Bytes ms) (w : World) (h1 : 1 ≤ n) (h4 : n ≤ 4) :
    Calls Try.prog 27 #[.agg (dcells n ms)] w fun e w' => e = .returned (.bool (isP n ms)) ∧ Below w.heap.size w w' := by
  have hl := Lib.hid hms
  have hno := Lib.hid (isP_no n ms hms hb h1 h4)
  have hyes := Lib.hid (isP_yes n ms hms hb h1 h4)
  have hbb := Lib.hid hb
  obtain ⟨r, hr⟩ : ∃ r, isP n ms = r := ⟨_, rfl⟩
  rw [hr] at hno hyes ⊢
  have c0 := dcells_zero n ms
  clear hms hb hr
  go_enter Try.func27, Try.ntmps27
  go_wp2_with (first
    | (go_at_call 18; ((with_reducible refine (inS_t _ _ _ _ h1 h4).mono ?_); rintro e w0 ⟨rfl, rfl⟩)))
  go_loopw [2, 3, 4] (fun q p i wr => ∃ k c : Nat, k ≤ 8 ∧ i = .int .i64 k ∧ p = .int .u8 c ∧ q = .bool false ∧ Hid (rgk n ms k = some c) ∧ Own wr w.heap.size (dcells n ms) 31 ∧ Below w.heap.size w wr) (fun _ _ i _ => (8 - intOf i).toNat)
  case atStart => exact ⟨0, 0, by omega, rfl, rfl, rfl, Lib.hid rfl, Own.new _ _ _, (Below.refl _ _).alloc (Nat.le_refl _) _⟩
  case round =>
    obtain ⟨k, c, hk, rfl, rfl, rfl, hP, hO, hB⟩ := hrel
    have hck := rgk_c _ _ _ _ hP.out
    have k0 := hO.cell 0
    rw [c0] at k0
    by_cases hlt : k < 8
    · have c1 := hO.cell (1 + k)
      rw [dcells_get _ _ _ (by rw [hl.out]; exact hlt)] at c1
      have hx := hbb.out.get k
      have g1 := Lib.hid (rgk_out0 n ms k c hP.out)
      have g2 := Lib.hid (rgk_out1 n ms k c hP.out)
      have g3 := Lib.hid (rgk_gt n ms k c hP.out)
      have g4 := Lib.hid (rgk_eq n ms k c hP.out)
      have g5 := Lib.hid (rgk_lt n ms k c hP.out)
      have gn := Lib.hid (hno.out k c hlt hP.out)
      obtain ⟨x, he⟩ : ∃ x, ms.getD k 0 = x := ⟨_, rfl⟩
      rw [he] at c1 hx g1 g2 g3 g4 g5
      obtain ⟨hx0, hx1⟩ := hx
      clear he hno hyes hP
      by_cases hin : 2 * n ≤ (k : Int)
      · by_cases hz : x = 0
        · have HP := Lib.hid (g1.out hin hz)
          subst hz
          have hin2 : ¬ (k : Int) < 2 * n := by omega
          go_wp2
          go_roundw
          case rel => exact ⟨k + 1, c, by omega, by go_num, rfl, rfl, HP, hO, hB⟩
          case measure => simp [intOf]; omega
        · have HP := Lib.hid (gn.out (g2.out hin hz))
          have hz2 : (x != 0) = true := by simpa using hz
          go_wp2
          go_ret
          exact ⟨by rw [HP.out]; rfl, hB⟩
      · have hin2 : (k : Int) < 2 * n := by omega
        by_cases hgt : (c : Int) < x
        · have HP := Lib.hid (gn.out (g3.out hin hgt))
          go_wp2
          go_ret
          exact ⟨by rw [HP.out]; rfl, hB⟩
        · by_cases heq : x = (c : Int)
          · have HP := Lib.hid (g4.out hin heq)
            subst heq
            go_wp2
            go_roundw
            case rel => exact ⟨k + 1, c + 1, by omega, by go_num, by go_num, rfl, HP, hO, hB⟩
            case measure => simp [intOf]; omega
          · have HP := Lib.hid (g5.out hin (by omega))
            have hne : (x == (c : Int)) = false := by simpa using heq
            go_wp2
            go_roundw
            case rel => exact ⟨k + 1, c, by omega, by go_num, rfl, rfl, HP, hO, hB⟩
            case measure => simp [intOf]; omega
    · obtain rfl : k = 8 := by omega
      have HP := Lib.hid (hyes.out c hP.out)
      go_wp2
      go_ret
      exact ⟨by rw [HP.out]; rfl, hB⟩
set_option maxRecDepth 100000 in
theorem isPS_bad (n : Int) (ms : List Int) (w : World) (h : n < 1 ∨ 4 < n) :
    Calls Try.prog 27 #[.agg (dcells n ms)] w fun e w' => e = .returned (.bool (isP n ms)) ∧ Below w.heap.size w w' := by
  rw [isP_bad n ms h]
  have c0 := dcells_zero n ms
  have hh := Lib.hid h
  clear h
  go_enter Try.func27, Try.ntmps27
  go_wp2_with (first
    | (go_at_call 18; ((with_reducible refine (inS_f _ _ _ _ hh.out).mono ?_); rintro e w0 ⟨rfl, rfl⟩)))
  go_ret
  exact ⟨rfl, (Below.refl _ _).alloc (Nat.le_refl _) _⟩
theorem isPS_any (n : Int) (ms : List Int) (hms : ms.length = 8) (hb : Bytes ms) (w : World) :
    Calls Try.prog 27 #[.agg (dcells n ms)] w fun e w' => e = .returned (.bool (isP n ms)) ∧ Below w.heap.size w w' := by
  by_cases h : 1 ≤ n ∧ n ≤ 4
  · exact isPS_ok n ms hms hb w h.1 h.2
  · exact isPS_bad n ms w (by omega)
end Go.Proofs.Ytlgdeciikliihaa
