/- Plain mathematics: how many half diagrams there are; the tests of sizes; CountHalves, the model's. -/
import Derived.Test.YthofkmndgedkgaaExM
import Derived.Test.YthofkmndgedkgaaImplA
import Derived.Test.YthofkmndgedkgaaSpecA
namespace Go.Proofs.Ythofkmndgedkgaa
open Go.RowKit
set_option linter.unusedVariables false
set_option linter.unusedSimpArgs false
/-- n over i, as the model counts it. -/
def ovr (n : Nat) : Nat → Int
  | 0 => 1
  | i + 1 => ovr n i * ((n : Int) - i) / ((i : Int) + 1)
def lss (n : Nat) : Nat → Int
  | 0 => 0
  | i + 1 => ovr n i
theorem ovr_bd (n : Nat) (hn : n ≤ 8) (i : Nat) (hi : i ≤ 4) : 0 ≤ ovr n i ∧ ovr n i ≤ 100 := by
  have h : ∀ n, n < 9 → ∀ i, i < 5 → 0 ≤ ovr n i ∧ ovr n i ≤ 100 := by decide +kernel
  exact h n (by omega) i (by omega)
theorem lss_bd (n : Nat) (hn : n ≤ 8) (i : Nat) (hi : i ≤ 4) : 0 ≤ lss n i ∧ lss n i ≤ 100 := by
  cases i with
  | zero => simp [lss]
  | succ i => exact ovr_bd n hn i (by omega)
theorem allH_count (n k : Nat) (h1 : 1 ≤ n) (h8 : n ≤ 8) (hk : k ≤ n) (he : (n - k) % 2 = 0) : ((allH n k).length : Int) = ovr n ((n - k) / 2) - lss n ((n - k) / 2) := by
  have h : ∀ n, n < 9 → ∀ k, k < 9 → 1 ≤ n → k ≤ n → (n - k) % 2 = 0 → ((allH n k).length : Int) = ovr n ((n - k) / 2) - lss n ((n - k) / 2) := by decide +kernel
  exact h n (by omega) k (by omega) h1 hk he
theorem allH_small (n k : Nat) (h1 : 1 ≤ n) (h8 : n ≤ 12) (hk : k ≤ n) (he : (n - k) % 2 = 0) : (allH n k).length ≤ 1000 := by
  have h : ∀ n, n < 13 → ∀ k, k < 13 → 1 ≤ n → k ≤ n → (n - k) % 2 = 0 → (allH n k).length ≤ 1000 := by decide +kernel
  exact h n (by omega) k (by omega) h1 hk he
/-- The sizes of cells. -/
def CellOk (n k m : Int) : Prop := (1 ≤ n ∧ n ≤ m) ∧ 0 ≤ k ∧ k ≤ n ∧ (n - k) % 2 = 0
set_option maxRecDepth 100000 in
theorem cellI_t (n k : Int) (w : World) (h : CellOk n k 8) : Calls Try.prog 84 #[.int .i64 n, .int .i64 k] w fun e w' => e = .returned (.bool true) ∧ w = w' := by
  obtain ⟨⟨h1, h2⟩, h3, h4, h5⟩ := h
  have h6 : (((n - k) % 2) == 0) = true := by simpa using h5
  have h7 : ((n - k).tmod 2 == 0) = true := by rw [Int.tmod_eq_emod_of_nonneg (by omega)]; exact h6
  clear h5
  go_enter Try.func84, Try.ntmps84
  go_wp2_with (first
    | (go_at_call 115; ((with_reducible refine (isSize_t n _ h1 h2).mono ?_); rintro e w0 ⟨rfl, rfl⟩)))
  go_ret
  exact ⟨rfl, rfl⟩
set_option maxRecDepth 100000 in
theorem cellI_f (n k : Int) (w : World) (h : ¬ CellOk n k 8) (hk : -9223372036854775808 ≤ k ∧ k ≤ 9223372036854775807) : Calls Try.prog 84 #[.int .i64 n, .int .i64 k] w fun e w' => e = .returned (.bool false) ∧ w = w' := by
  unfold CellOk at h
  by_cases h1 : 1 ≤ n ∧ n ≤ 8
  · obtain ⟨h1, h2⟩ := h1
    by_cases h3 : 0 ≤ k
    · by_cases h4 : k ≤ n
      · have h5 : ¬ (n - k) % 2 = 0 := fun h5 => h ⟨⟨h1, h2⟩, h3, h4, h5⟩
        have h6 : (((n - k) % 2) == 0) = false := by simpa using h5
        have h7 : ((n - k).tmod 2 == 0) = false := by rw [Int.tmod_eq_emod_of_nonneg (by omega)]; exact h6
        clear h5 h
        go_enter Try.func84, Try.ntmps84
        go_wp2_with (first
          | (go_at_call 115; ((with_reducible refine (isSize_t n _ h1 h2).mono ?_); rintro e w0 ⟨rfl, rfl⟩)))
        go_ret
        exact ⟨rfl, rfl⟩
      · clear h
        go_enter Try.func84, Try.ntmps84
        go_wp2_with (first
          | (go_at_call 115; ((with_reducible refine (isSize_t n _ h1 h2).mono ?_); rintro e w0 ⟨rfl, rfl⟩)))
        go_ret
        exact ⟨rfl, rfl⟩
    · clear h
      go_enter Try.func84, Try.ntmps84
      go_wp2_with (first
        | (go_at_call 115; ((with_reducible refine (isSize_t n _ h1 h2).mono ?_); rintro e w0 ⟨rfl, rfl⟩)))
      go_ret
      exact ⟨rfl, rfl⟩
  · have h2 := Lib.hid (show n < 1 ∨ 8 < n by omega)
    clear h h1
    go_enter Try.func84, Try.ntmps84
    go_wp2_with (first
      | (go_at_call 115; ((with_reducible refine (isSize_f n _ h2.out).mono ?_); rintro e w0 ⟨rfl, rfl⟩)))
    go_ret
    exact ⟨rfl, rfl⟩
set_option maxRecDepth 100000 in
theorem rangeS_t (n k m : Int) (w : World) (h : CellOk n k m) (hm : m ≤ 100) : Calls Try.prog 82 #[.int .i64 n, .int .i64 k, .int .i64 m] w fun e w' => e = .returned (.bool true) ∧ w = w' := by
  obtain ⟨⟨h1, h2⟩, h3, h4, h5⟩ := h
  have h6 : (((n - k) % 2) == 0) = true := by simpa using h5
  have h7 : ((n - k).tmod 2 == 0) = true := by rw [Int.tmod_eq_emod_of_nonneg (by omega)]; exact h6
  clear h5
  go_enter Try.func82, Try.ntmps82
  go_wp2_with (first
    | (go_at_call 64; ((with_reducible refine (inS_t n 1 m _ h1 h2).mono ?_); rintro e w0 ⟨rfl, rfl⟩))
    | (go_at_call 64; ((with_reducible refine (inS_t k 0 n _ h3 h4).mono ?_); rintro e w0 ⟨rfl, rfl⟩)))
  go_ret
  exact ⟨rfl, rfl⟩
set_option maxRecDepth 100000 in
theorem rangeS_f (n k m : Int) (w : World) (h : ¬ CellOk n k m) (hm : m ≤ 100) : Calls Try.prog 82 #[.int .i64 n, .int .i64 k, .int .i64 m] w fun e w' => e = .returned (.bool false) ∧ w = w' := by
  unfold CellOk at h
  by_cases h1 : 1 ≤ n ∧ n ≤ m
  · obtain ⟨h1, h2⟩ := h1
    by_cases h3 : 0 ≤ k ∧ k ≤ n
    · obtain ⟨h3, h4⟩ := h3
      have h5 : ¬ (n - k) % 2 = 0 := fun h5 => h ⟨⟨h1, h2⟩, h3, h4, h5⟩
      have h6 : (((n - k) % 2) == 0) = false := by simpa using h5
      have h7 : ((n - k).tmod 2 == 0) = false := by rw [Int.tmod_eq_emod_of_nonneg (by omega)]; exact h6
      clear h5 h
      go_enter Try.func82, Try.ntmps82
      go_wp2_with (first
        | (go_at_call 64; ((with_reducible refine (inS_t n 1 m _ h1 h2).mono ?_); rintro e w0 ⟨rfl, rfl⟩))
        | (go_at_call 64; ((with_reducible refine (inS_t k 0 n _ h3 h4).mono ?_); rintro e w0 ⟨rfl, rfl⟩)))
      go_ret
      exact ⟨rfl, rfl⟩
    · have h4 := Lib.hid (show k < 0 ∨ n < k by omega)
      clear h h3
      go_enter Try.func82, Try.ntmps82
      go_wp2_with (first
        | (go_at_call 64; ((with_reducible refine (inS_t n 1 m _ h1 h2).mono ?_); rintro e w0 ⟨rfl, rfl⟩))
        | (go_at_call 64; ((with_reducible refine (inS_f k 0 n _ h4.out).mono ?_); rintro e w0 ⟨rfl, rfl⟩)))
      go_ret
      exact ⟨rfl, rfl⟩
  · have h2 := Lib.hid (show n < 1 ∨ m < n by omega)
    clear h h1
    go_enter Try.func82, Try.ntmps82
    go_wp2_with (first
      | (go_at_call 64; ((with_reducible refine (inS_f n 1 m _ h2.out).mono ?_); rintro e w0 ⟨rfl, rfl⟩)))
    go_ret
    exact ⟨rfl, rfl⟩
set_option maxRecDepth 100000 in
set_option maxHeartbeats 1000000 in
theorem chvS_ok (n k : Nat) (h1 : 1 ≤ n) (h8 : n ≤ 8) (hk : k ≤ n) (he : (n - k) % 2 = 0) (w : World) :
    Calls Try.prog 33 #[.int .i64 n, .int .i64 k] w fun e w' => e = .returned (.tuple #[.int .i64 (allH n k).length, .int .i64 0]) ∧ Below w.heap.size w w' := by
  have hR := Lib.hid (fun w => rangeS_t n k 8 w ⟨⟨by omega, by omega⟩, by omega, by omega, by omega⟩ (by omega))
  have hC := Lib.hid (allH_count n k h1 h8 hk he)
  obtain ⟨m, hm⟩ : ∃ m, (n - k) / 2 = m := ⟨_, rfl⟩
  rw [hm] at hC
  have m4 : m ≤ 4 := by omega
  have q1 : ((n : Int) - (k : Int)) / 2 = (m : Int) := by omega
  have q2 : ((n : Int) - (k : Int)).tdiv 2 = (m : Int) := by rw [Int.tdiv_eq_ediv_of_nonneg (by omega)]; exact q1
  clear hm he
  go_enter Try.func33, Try.ntmps33
  go_wp2_with (first
    | (go_at_call 82; ((with_reducible refine (hR.out _).mono ?_); rintro e w0 ⟨rfl, rfl⟩)))
  go_loopw [7, 8, 9] (fun a b i wr => ∃ j : Nat, j ≤ m ∧ i = .int .i64 j ∧ a = .int .i64 (ovr n j) ∧ b = .int .i64 (lss n j) ∧ Below w.heap.size w wr) (fun _ _ i _ => ((m : Int) - intOf i).toNat)
  case atStart => exact ⟨0, by omega, rfl, rfl, rfl, Below.refl _ _⟩
  case round =>
    obtain ⟨j, hj, rfl, rfl, rfl, hB⟩ := hrel
    have b1 := ovr_bd n h8 j (by omega)
    have b2 := lss_bd n h8 j (by omega)
    by_cases hlt : j < m
    · have i1 : (j : Int) < (m : Int) := by omega
      have b3 := ovr_bd n h8 (j + 1) (by omega)
      have e1 := Lib.hid (show ovr n (j + 1) = ovr n j * ((n : Int) - j) / ((j : Int) + 1) from rfl)
      have e2 := Lib.hid (show lss n (j + 1) = ovr n j from rfl)
      obtain ⟨x, hx⟩ : ∃ x, ovr n j = x := ⟨_, rfl⟩
      rw [hx] at b1 e1 e2 ⊢
      obtain ⟨y, hy⟩ : ∃ y, x * ((n : Int) - j) = y := ⟨_, rfl⟩
      have by1 : 0 ≤ y := by rw [← hy]; exact Int.mul_nonneg b1.1 (by omega)
      have by2 : y ≤ 1000 := by
        rw [← hy]
        have := Int.mul_le_mul b1.2 (show (n : Int) - j ≤ 8 by omega) (by omega) (by omega)
        omega
      have e3 := e1.out
      rw [hy] at e3
      have e4 : y.tdiv ((j : Int) + 1) = ovr n (j + 1) := by rw [Int.tdiv_eq_ediv_of_nonneg by1]; exact e3.symm
      have hd : ¬ (j : Int) + 1 = 0 := by omega
      have hw : IntKind.i64.wrap (x * ((n : Int) - j)) = y := by rw [hy]; exact IntWalk.i64_in _ (by omega)
      obtain ⟨z, hz⟩ : ∃ z, ovr n (j + 1) = z := ⟨_, rfl⟩
      rw [hz] at e4 b3 e3
      have HZ := Lib.hid hz
      have e3 := e3.symm
      obtain ⟨q, hq⟩ : ∃ q, (j : Int) + 1 = q := ⟨_, rfl⟩
      rw [hq] at e3 e4
      have hq0 : ¬ q = 0 := by omega
      have hq1 : 0 < q := by omega
      have hq2 : q ≤ 10 := by omega
      have E3 := Lib.hid (show wrap64 (y / q) = z by rw [e3]; unfold wrap64; omega)
      clear hx hz hd hy e3
      go_wp2
      go_roundw
      case rel => exact ⟨j + 1, by omega, by go_num, by rw [HZ.out]; first | rfl | rw [E3.out], by rw [e2.out], hB⟩
      case measure => simp [intOf]; omega
    · have e : j = m := by omega
      subst e
      obtain ⟨x, hx⟩ : ∃ x, ovr n j = x := ⟨_, rfl⟩
      obtain ⟨y, hy⟩ : ∃ y, lss n j = y := ⟨_, rfl⟩
      rw [hx, hy] at hC ⊢
      rw [hx] at b1
      rw [hy] at b2
      clear hx hy
      go_wp2
      go_ret2
      exact ⟨by rw [hC.out]; rfl, hB⟩
end Go.Proofs.Ythofkmndgedkgaa
