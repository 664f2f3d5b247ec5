/- The model's Chebyshev numbers. -/
import Derived.Test.YtmcffhafonemeaaCheF
namespace Go.Proofs.Ytmcffhafonemeaa
open Go.RowKit
set_option linter.unusedVariables false
set_option maxRecDepth 100000 in
theorem codeS_any (p c : Int) (w : World) (hr : -9223372036854775808 ≤ p ∧ p ≤ 9223372036854775807) :
    Calls Try.prog 38 #[.int .i64 p, .int .i64 c] w fun e w' => e = .returned (.int .i64 (if modB p c then 0 else 2)) ∧ w = w' := by
  have hp0 := fun w => primeS_any p w hr
  unfold modB
  cases hb : primeB p with
  | false =>
    rw [hb] at hp0
    have hp := Lib.hid hp0
    clear hp0 hb hr
    rw [Bool.false_and, if_neg (by simp)]
    go_enter Try.func38, Try.ntmps38
    go_wp2_with (first
      | (go_at_call 51; ((with_reducible refine (hp.out _).mono ?_); rintro e w1 ⟨rfl, rfl⟩)))
    go_ret
    exact ⟨rfl, rfl⟩
  | true =>
    obtain ⟨h1, h2⟩ := primeB_two hb
    rw [hb] at hp0
    have hp := Lib.hid hp0
    clear hp0 hb hr
    rw [Bool.true_and]
    by_cases hc : 0 ≤ c ∧ c < p
    · rw [if_pos (by simpa using hc)]
      obtain ⟨c0, c1⟩ := hc
      have c1' : c ≤ p - 1 := by omega
      go_enter Try.func38, Try.ntmps38
      go_wp2_with (first
        | (go_at_call 51; ((with_reducible refine (hp.out _).mono ?_); rintro e w1 ⟨rfl, rfl⟩))
        | (go_at_call 42; ((with_reducible refine (inS_t c 0 (p - 1) _ c0 c1').mono ?_); rintro e w1 ⟨rfl, rfl⟩)))
      go_ret
      exact ⟨rfl, rfl⟩
    · rw [if_neg (by simpa using hc)]
      have c1' : c < 0 ∨ p - 1 < c := by omega
      clear hc
      go_enter Try.func38, Try.ntmps38
      go_wp2_with (first
        | (go_at_call 51; ((with_reducible refine (hp.out _).mono ?_); rintro e w1 ⟨rfl, rfl⟩))
        | (go_at_call 42; ((with_reducible refine (inS_f c 0 (p - 1) _ c1').mono ?_); rintro e w1 ⟨rfl, rfl⟩)))
      go_ret
      exact ⟨rfl, rfl⟩
theorem ch1_range (p c : Int) (hp : 2 ≤ p) (i : Nat) : 0 ≤ (ch p c i).1 ∧ (ch p c i).1 < p := by
  cases i with
  | zero => show (0 : Int) ≤ 0 ∧ (0 : Int) < p; omega
  | succ i => exact cheb_range p c hp i
set_option maxRecDepth 100000 in
theorem numS_low (p c k : Int) (w : World) (hk : k < 0) :
    Calls Try.prog 43 #[.int .i64 p, .int .i64 c, .int .i64 k] w fun e w' => e = .returned (.int .i64 0) ∧ w = w' := by
  go_enter Try.func43, Try.ntmps43
  go_wp2
  refine wp_loop_rounds 1 ?_
  rw [rounds_succ]
  go_wp2
  go_ret
  exact ⟨rfl, rfl⟩
set_option maxRecDepth 100000 in
theorem numS_any (p c : Int) (K : Nat) (w : World) (hp : 2 ≤ p) (hp2 : p ≤ 97) (hc0 : 0 ≤ c) (hc1 : c < p) (hk : K ≤ 100000) :
    Calls Try.prog 43 #[.int .i64 p, .int .i64 c, .int .i64 K] w fun e w' => e = .returned (.int .i64 (cheb p c K)) ∧ w = w' := by
  go_enter Try.func43, Try.ntmps43
  go_wp2
  go_loopw [2, 7, 8] (fun k a b wr => ∃ i : Nat, i ≤ K ∧ k = .int .i64 ((K - i : Nat) : Int) ∧ a = .int .i64 (ch p c i).1 ∧ b = .int .i64 (ch p c i).2 ∧ wr = w) (fun k _ _ _ => (intOf k).toNat)
  case atStart => exact ⟨0, by omega, rfl, rfl, rfl, rfl⟩
  case round =>
    obtain ⟨i, hi, rfl, rfl, rfl, rfl⟩ := hrel
    by_cases hlt : i < K
    · have r1 := ch1_range p c hp i
      have r2 := cheb_range p c hp i
      have m1 := bnd_mul p c (ch p c i).2 0 hp hp2 hc0 hc1 r2.1 r2.2
      have hx : Hid ((ch p c (i + 1)).2 = (c * (ch p c i).2 - (ch p c i).1) % p) := Lib.hid rfl
      have hy : Hid ((ch p c (i + 1)).1 = (ch p c i).2) := Lib.hid rfl
      unfold cheb at r2
      generalize hq1 : (ch p c i).1 = x1 at *
      generalize hq2 : (ch p c i).2 = x2 at *
      have HX := Lib.hid hq1
      have HY := Lib.hid hq2
      clear hq1 hq2
      have e2 : IntKind.i64.wrap (c * x2) = c * x2 := IntWalk.i64_in _ (by omega)
      have e3 : IntKind.i64.wrap (c * x2 - x1) = c * x2 - x1 := IntWalk.i64_in _ (by omega)
      have hcr := Lib.hid (modS_any p (c * x2 - x1) wr hp hp2 (by omega) (by omega))
      have i0 : 0 < K - i := by omega
      have e0 := Lib.hid (show ((K - i : Nat) : Int) - 1 = ((K - (i + 1) : Nat) : Int) by omega)
      have i1 : K - i ≤ 100000 := by omega
      generalize K - i = M at *
      go_wp2_with (first
        | (go_at_call 49; ((with_reducible refine (hcr.out).mono ?_); rintro e w1 ⟨rfl, rfl⟩)))
      go_roundw
      case rel => exact ⟨i + 1, by omega, by rw [e0.out], by rw [hy.out], by rw [hx.out], trivial⟩
      case measure => simp [intOf]; omega
    · obtain rfl : i = K := by omega
      rw [Nat.sub_self]
      go_wp2
      go_ret
      exact ⟨rfl, rfl⟩
set_option maxRecDepth 100000 in
theorem zeroS_any (p c : Int) (w : World) (h : modB p c = true) :
    Calls Try.prog 39 #[.int .i64 p, .int .i64 c] w fun e w' => e = .returned (.int .i64 (fz p c)) ∧ w = w' := by
  obtain ⟨hpr, hp, hp2, hc0, hc1⟩ := modB_spec h
  obtain ⟨z0, z1, z2⟩ := has_zero p c hpr hc0 hc1
  have hz := Lib.hid z0
  have hne := Lib.hid (fz_before p c)
  have hn := Lib.hid (fun (k : Nat) (hk : k ≤ 1000) (w1 : World) => numS_any p c k w1 hp hp2 hc0 hc1 (by omega))
  clear h hc0 hc1 z0
  generalize fz p c = z at *
  go_enter Try.func39, Try.ntmps39
  go_wp2
  go_loopw [5] (fun i wr => ∃ k : Nat, 1 ≤ k ∧ k ≤ z ∧ i = .int .i64 k ∧ wr = w) (fun i _ => ((z : Int) - intOf i).toNat)
  case atStart => exact ⟨1, by omega, by omega, rfl, rfl⟩
  case round =>
    obtain ⟨k, hk1, hk2, rfl, rfl⟩ := hrel
    have hnk := Lib.hid (hn.out k (by omega))
    by_cases hlt : k < z
    · have hx := hne.out k hk1 hlt
      generalize cheb p c k = x at *
      have b : (x != 0) = true := by simpa using hx
      clear hx
      go_wp2_with (first
        | (go_at_call 43; ((with_reducible refine (hnk.out _).mono ?_); rintro e w3 ⟨rfl, rfl⟩)))
      go_roundw
      case rel => exact ⟨k + 1, by omega, by omega, by go_num, trivial⟩
      case measure => simp [intOf]; omega
    · obtain rfl : k = z := by omega
      rw [hz.out] at hnk
      go_wp2_with (first
        | (go_at_call 43; ((with_reducible refine (hnk.out _).mono ?_); rintro e w3 ⟨rfl, rfl⟩)))
      go_ret
      exact ⟨rfl, rfl⟩
set_option maxRecDepth 100000 in
theorem chebS_bad (p c k : Int) (w : World) (hr : -9223372036854775808 ≤ p ∧ p ≤ 9223372036854775807) (h : ¬ (modB p c = true ∧ 0 ≤ k ∧ k ≤ 1000)) :
    Calls Try.prog 18 #[.int .i64 p, .int .i64 c, .int .i64 k] w fun e w' => e = .returned (.tuple #[.int .i64 0, .int .i64 2]) ∧ w = w' := by
  have hc0 := codeS_any p c w hr
  clear hr
  cases hm : modB p c with
  | false =>
    rw [hm, if_neg (by simp)] at hc0
    have hc := Lib.hid hc0
    clear h hm hc0
    go_enter Try.func18, Try.ntmps18
    go_wp2_with (first
      | (go_at_call 38; ((with_reducible refine (hc.out).mono ?_); rintro e w1 ⟨rfl, rfl⟩)))
    go_ret2
    exact ⟨rfl, rfl⟩
  | true =>
    rw [hm, if_pos rfl] at hc0
    have hc := Lib.hid hc0
    have h2 : k < 0 ∨ 1000 < k := by
      refine Decidable.byContradiction fun hn => h ⟨hm, by omega, by omega⟩
    clear h hm hc0
    go_enter Try.func18, Try.ntmps18
    go_wp2_with (first
      | (go_at_call 38; ((with_reducible refine (hc.out).mono ?_); rintro e w1 ⟨rfl, rfl⟩))
      | (go_at_call 42; ((with_reducible refine (inS_f k 0 1000 _ h2).mono ?_); rintro e w1 ⟨rfl, rfl⟩)))
    go_ret2
    exact ⟨rfl, rfl⟩
set_option maxRecDepth 100000 in
theorem chebS_ok (p c : Int) (k : Nat) (w : World) (h : modB p c = true) (hk : k ≤ 1000) :
    Calls Try.prog 18 #[.int .i64 p, .int .i64 c, .int .i64 k] w fun e w' => e = .returned (.tuple #[.int .i64 (cheb p c k), .int .i64 0]) ∧ w = w' := by
  obtain ⟨_, hp, hp2, hc0, hc1⟩ := modB_spec h
  have hc2 := codeS_any p c w ⟨by omega, by omega⟩
  rw [h, if_pos rfl] at hc2
  have hc := Lib.hid hc2
  have hn := Lib.hid (numS_any p c k w hp hp2 hc0 hc1 (by omega))
  have k0 : (0 : Int) ≤ k := by omega
  have k1 : (k : Int) ≤ 1000 := by omega
  clear h hc0 hc1 hc2
  go_enter Try.func18, Try.ntmps18
  go_wp2_with (first
    | (go_at_call 38; ((with_reducible refine (hc.out).mono ?_); rintro e w1 ⟨rfl, rfl⟩))
    | (go_at_call 42; ((with_reducible refine (inS_t k 0 1000 _ k0 k1).mono ?_); rintro e w1 ⟨rfl, rfl⟩))
    | (go_at_call 43; ((with_reducible refine (hn.out).mono ?_); rintro e w1 ⟨rfl, rfl⟩)))
  go_ret2
  exact ⟨rfl, rfl⟩
set_option maxRecDepth 100000 in
theorem fzS_bad (p c : Int) (w : World) (hr : -9223372036854775808 ≤ p ∧ p ≤ 9223372036854775807) (h : modB p c = false) :
    Calls Try.prog 15 #[.int .i64 p, .int .i64 c] w fun e w' => e = .returned (.tuple #[.int .i64 0, .int .i64 2]) ∧ w = w' := by
  have hc0 := codeS_any p c w hr
  rw [h, if_neg (by simp)] at hc0
  have hc := Lib.hid hc0
  clear h hr hc0
  go_enter Try.func15, Try.ntmps15
  go_wp2_with (first
    | (go_at_call 38; ((with_reducible refine (hc.out).mono ?_); rintro e w1 ⟨rfl, rfl⟩)))
  go_ret2
  exact ⟨rfl, rfl⟩
set_option maxRecDepth 100000 in
theorem fzS_ok (p c : Int) (w : World) (h : modB p c = true) :
    Calls Try.prog 15 #[.int .i64 p, .int .i64 c] w fun e w' => e = .returned (.tuple #[.int .i64 (fz p c), .int .i64 0]) ∧ w = w' := by
  obtain ⟨_, hp, hp2, _, _⟩ := modB_spec h
  have hc0 := codeS_any p c w ⟨by omega, by omega⟩
  rw [h, if_pos rfl] at hc0
  have hc := Lib.hid hc0
  have hz := Lib.hid (zeroS_any p c w h)
  clear h hc0
  go_enter Try.func15, Try.ntmps15
  go_wp2_with (first
    | (go_at_call 38; ((with_reducible refine (hc.out).mono ?_); rintro e w1 ⟨rfl, rfl⟩))
    | (go_at_call 39; ((with_reducible refine (hz.out).mono ?_); rintro e w1 ⟨rfl, rfl⟩)))
  go_ret2
  exact ⟨rfl, rfl⟩
end Go.Proofs.Ytmcffhafonemeaa
