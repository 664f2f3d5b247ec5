/- Arithmetic modulo a prime: remainders, powers, inverses, of the program and of the model. -/
import Derived.Test.YtmcffhafonemeaaChebN
import Derived.Test.YtmcffhafonemeaaSpecA
import Derived.IntWalk
namespace Go.Proofs.Ytmcffhafonemeaa
open Go.RowKit
set_option linter.unusedVariables false
theorem bnd_mul (p a b x : Int) (hp : 2 ≤ p) (hp2 : p ≤ 97) (a0 : 0 ≤ a) (a1 : a < p) (b0 : 0 ≤ b) (b1 : b < p) : 0 ≤ a * b ∧ a * b ≤ 9409 := by
  refine ⟨Int.mul_nonneg a0 b0, ?_⟩
  have h1 : a * b ≤ 97 * b := Int.mul_le_mul_of_nonneg_right (by omega) b0
  omega
set_option maxRecDepth 100000 in
theorem remI_any (p x : Int) (w : World) (hp : 2 ≤ p) (hp2 : p ≤ 97) (h0 : -1000000000000 ≤ x) (h1 : x ≤ 1000000000000) :
    Calls Try.prog 46 #[.int .i64 p, .int .i64 x] w fun e w' => e = .returned (.int .i64 (x % p)) ∧ w = w' := by
  have hl := Lib.hid (lmod p x (by omega))
  have h2 : -p < x.tmod p := by
    have := Int.lt_tmod_of_pos x (show 0 < p by omega); omega
  have h3 : x.tmod p < p := Int.tmod_lt_of_pos x (by omega)
  have e0 : (p == 0) = false := by simp; omega
  have e1 : IntKind.i64.wrap (x.tmod p) = x.tmod p := IntWalk.i64_in _ (by omega)
  have e2 : IntKind.i64.wrap (x.tmod p + p) = x.tmod p + p := IntWalk.i64_in _ (by omega)
  rw [← hl.out]
  generalize hy : x.tmod p = y at *
  have e3 : IntKind.i64.wrap ((y + p).tmod p) = (y + p).tmod p := by
    rw [Int.tmod_eq_emod_of_nonneg (by omega)]
    have := Int.emod_nonneg (y + p) (show p ≠ 0 by omega)
    have := Int.emod_lt_of_pos (y + p) (show 0 < p by omega)
    exact IntWalk.i64_in _ (by omega)
  go_enter Try.func46, Try.ntmps46
  go_wp2
  go_ret
  refine ⟨?_, rfl⟩
  show Ending.returned (.int .i64 ((y + p) % p)) = _
  rw [Int.tmod_eq_emod_of_nonneg (by omega)]
set_option maxRecDepth 100000 in
theorem modS_any (p x : Int) (w : World) (hp : 2 ≤ p) (hp2 : p ≤ 97) (h0 : -1000000000000 ≤ x) (h1 : x ≤ 1000000000000) :
    Calls Try.prog 49 #[.int .i64 p, .int .i64 x] w fun e w' => e = .returned (.int .i64 (x % p)) ∧ w = w' := by
  have hl := Lib.hid (lmod p x (by omega))
  have h2 : -p < x.tmod p := by
    have := Int.lt_tmod_of_pos x (show 0 < p by omega); omega
  have h3 : x.tmod p < p := Int.tmod_lt_of_pos x (by omega)
  have e0 : (p == 0) = false := by simp; omega
  have e1 : IntKind.i64.wrap (x.tmod p) = x.tmod p := IntWalk.i64_in _ (by omega)
  have e2 : IntKind.i64.wrap (x.tmod p + p) = x.tmod p + p := IntWalk.i64_in _ (by omega)
  rw [← hl.out]
  generalize hy : x.tmod p = y at *
  have e3 : IntKind.i64.wrap ((y + p).tmod p) = (y + p).tmod p := by
    rw [Int.tmod_eq_emod_of_nonneg (by omega)]
    have := Int.emod_nonneg (y + p) (show p ≠ 0 by omega)
    have := Int.emod_lt_of_pos (y + p) (show 0 < p by omega)
    exact IntWalk.i64_in _ (by omega)
  go_enter Try.func49, Try.ntmps49
  go_wp2
  go_ret
  refine ⟨?_, rfl⟩
  show Ending.returned (.int .i64 ((y + p) % p)) = _
  rw [Int.tmod_eq_emod_of_nonneg (by omega)]
theorem primeB_two {p : Int} (h : primeB p = true) : 2 ≤ p ∧ p ≤ 97 := by
  unfold primeB at h; rw [decide_eq_true_iff] at h; exact ⟨h.1, h.2.1⟩
set_option maxRecDepth 100000 in
theorem powI_any (p k : Int) (n : Nat) (w : World) (hp : 2 ≤ p) (hp2 : p ≤ 97) (hk0 : 0 ≤ k) (hk1 : k < p) (hn : n ≤ 1000) :
    Calls Try.prog 48 #[.int .i64 p, .int .i64 k, .int .i64 n] w fun e w' => e = .returned (.int .i64 (pw p k n)) ∧ w = w' := by
  have e0 : (p == 0) = false := by simp; omega
  have hr := Lib.hid (pw_range p k hp)
  go_enter Try.func48, Try.ntmps48
  go_wp2
  go_loopw [7, 9] (fun v i wr => ∃ j : Nat, j ≤ n ∧ i = .int .i64 j ∧ v = .int .i64 (pw p k j) ∧ wr = w) (fun _ i _ => ((n : Int) - intOf i).toNat)
  case atStart => exact ⟨0, by omega, rfl, rfl, rfl⟩
  case round =>
    obtain ⟨j, hj, rfl, rfl, rfl⟩ := hrel
    by_cases hlt : j < n
    · have r := hr.out j
      have m1 := bnd_mul p (pw p k j) k 0 hp hp2 r.1 r.2 hk0 hk1
      have hx : Hid (pw p k (j + 1) = pw p k j * k % p) := Lib.hid rfl
      generalize pw p k j = x at *
      go_wp2
      go_roundw
      case rel => exact ⟨j + 1, by omega, by go_num, by rw [hx.out], trivial⟩
      case measure => simp [intOf]; omega
    · obtain rfl : j = n := by omega
      go_wp2
      go_ret
      exact ⟨rfl, rfl⟩
set_option maxRecDepth 100000 in
theorem rcpI_any (p x : Int) (w : World) (hp : 2 ≤ p) (hp2 : p ≤ 97) (hk0 : 0 ≤ x) (hk1 : x < p) :
    Calls Try.prog 29 #[.int .i64 p, .int .i64 x] w fun e w' => e = .returned (.int .i64 (rcp p x)) ∧ w = w' := by
  unfold rcp
  obtain ⟨n, hn⟩ : ∃ n : Nat, p - 2 = n := ⟨(p - 2).toNat, by omega⟩
  rw [hn, Int.toNat_natCast]
  have hpw := Lib.hid (powI_any p x n w hp hp2 hk0 hk1 (by omega))
  rw [← hn] at hpw
  clear hn
  go_enter Try.func29, Try.ntmps29
  go_wp2_with (first
    | (go_at_call 48; ((with_reducible refine (hpw.out).mono ?_); rintro e w1 ⟨rfl, rfl⟩)))
  go_ret
  exact ⟨rfl, rfl⟩
set_option maxRecDepth 100000 in
theorem invS_any (p x : Int) (w : World) (hpr : primeB p = true) (hx0 : 1 ≤ x) (hx1 : x < p) :
    Calls Try.prog 33 #[.int .i64 p, .int .i64 x] w fun e w' => e = .returned (.int .i64 (rcp p x)) ∧ w = w' := by
  obtain ⟨hp, hp2⟩ := primeB_two hpr
  have hr := rcp_pos p x hpr hx0 hx1
  have hrm := rcp_mul p x hpr hx0 hx1
  have hone := Lib.hid (fun y h0 h1 h => rcp_one p x y hpr hx0 hx1 h0 h1 h)
  have hmod0 := fun w1 => modS_any p x w1 hp hp2 (by omega) (by omega)
  rw [Int.emod_eq_of_lt (by omega) hx1] at hmod0
  have hmod := Lib.hid hmod0
  have e0 : (p == 0) = false := by simp; omega
  obtain ⟨R, hR⟩ : ∃ R : Nat, rcp p x = R := ⟨(rcp p x).toNat, by omega⟩
  rw [hR] at hr hrm ⊢
  rw [hR] at hone
  have hrm' := Lib.hid (show (R : Int) * x % p = 1 by rw [Int.mul_comm]; exact hrm)
  clear hR hpr hmod0 hrm
  go_enter Try.func33, Try.ntmps33
  go_wp2
  go_loopw [5] (fun i wr => ∃ k : Nat, 1 ≤ k ∧ k ≤ R ∧ i = .int .i64 k ∧ wr = w) (fun i _ => ((R : Int) + 1 - intOf i).toNat)
  case atStart => exact ⟨1, by omega, by omega, rfl, rfl⟩
  case round =>
    obtain ⟨k, hk1, hk2, rfl, rfl⟩ := hrel
    have m1 := bnd_mul p k x 0 hp hp2 (by omega) (by omega) (by omega) hx1
    by_cases hlt : k < R
    · have hne : ¬ ((k : Int) * x % p = 1) := by
        intro h
        have := hone.out k (by omega) (by omega) h
        omega
      have b : ((k : Int) * x % p == 1) = false := by simpa using hne
      have kp : (k : Int) < p := by omega
      clear hne
      go_wp2_with (first
        | (go_at_call 49; ((with_reducible refine (hmod.out _).mono ?_); rintro e w3 ⟨rfl, rfl⟩)))
      go_roundw
      case rel => exact ⟨k + 1, by omega, by omega, by go_num, trivial⟩
      case measure => simp [intOf]; omega
    · obtain rfl : k = R := by omega
      have b : ((k : Int) * x % p == 1) = true := by simpa using hrm'.out
      have kp : (k : Int) < p := by omega
      go_wp2_with (first
        | (go_at_call 49; ((with_reducible refine (hmod.out _).mono ?_); rintro e w3 ⟨rfl, rfl⟩)))
      go_ret
      exact ⟨rfl, rfl⟩
/-- A number that is an int64. -/
theorem of_wf {a : Int} (h : (Lit.int IntKind.i64 a).wf = true) : -9223372036854775808 ≤ a ∧ a ≤ 9223372036854775807 := by
  have h' : (decide (IntKind.i64.min ≤ a) && decide (a ≤ IntKind.i64.max)) = true := h
  rw [Bool.and_eq_true, decide_eq_true_iff, decide_eq_true_iff, show IntKind.i64.min = -9223372036854775808 by decide, show IntKind.i64.max = 9223372036854775807 by decide] at h'
  exact h'
end Go.Proofs.Ytmcffhafonemeaa
