/- The model's theta numbers, and the law. -/
import Derived.Test.YtmcffhafonemeaaTheI
namespace Go.Proofs.Ytmcffhafonemeaa
open Go.RowKit
set_option linter.unusedVariables false
set_option maxRecDepth 100000 in
theorem prodS_any (p c k : Int) (w : World) (hp : 2 ≤ p) (hp2 : p ≤ 97) (hc0 : 0 ≤ c) (hc1 : c < p) (hk : k ≤ 1000) :
    Calls Try.prog 32 #[.int .i64 p, .int .i64 c, .int .i64 k] w fun e w' => e = .returned (.int .i64 (gz p c k)) ∧ w = w' := by
  by_cases h : k ≤ 0
  · rw [gz_low h]
    go_enter Try.func32, Try.ntmps32
    go_wp2
    refine wp_loop_rounds 1 ?_
    rw [rounds_succ]
    go_wp2
    go_ret
    exact ⟨rfl, rfl⟩
  · obtain ⟨K, rfl⟩ : ∃ K : Nat, k = K := ⟨k.toNat, by omega⟩
    unfold gz
    rw [Int.toNat_natCast]
    have e0 : (p == 0) = false := by simp; omega
    have hn := Lib.hid (fun (k : Nat) (hk : k ≤ 1000) w1 => numS_any p c k w1 hp hp2 hc0 hc1 (by omega))
    have hgs := Lib.hid (gpr_step p c)
    have hge := Lib.hid (gpr_end p c K)
    have hrg := Lib.hid (gpr_range p c hp)
    have hch := Lib.hid (cheb_range p c hp)
    clear h
    go_enter Try.func32, Try.ntmps32
    go_wp2
    go_loopw [2, 7] (fun k o wr => ∃ (i : Nat) (O : Int), i ≤ K ∧ k = .int .i64 i ∧ o = .int .i64 O ∧ Hid (0 ≤ O ∧ O < p ∧ gpr p c i * O % p = gpr p c K) ∧ wr = w) (fun k _ _ => (intOf k).toNat)
    case atStart => exact ⟨K, 1, by omega, rfl, rfl, Lib.hid ⟨by omega, by omega, by
      have := hrg.out K
      rw [Int.mul_one]; exact Int.emod_eq_of_lt this.1 this.2⟩, rfl⟩
    case round =>
      obtain ⟨i, O, hi, rfl, rfl, hO, rfl⟩ := hrel
      cases i with
      | zero =>
        have hfin := Lib.hid (hge.out O ⟨hO.out.1, hO.out.2.1⟩ hO.out.2.2)
        go_wp2
        go_ret
        exact ⟨by rw [← hfin.out]; rfl, rfl⟩
      | succ i =>
        have r1 := hO.out
        obtain ⟨o0, o1, o2⟩ := r1
        have r2 := hch.out (i + 1)
        have hO2 := Lib.hid (hgs.out i O _ o2)
        have hcl := Lib.hid (fun w1 => (show Calls Try.prog 43 #[.int .i64 p, .int .i64 c, .int .i64 ((i : Int) + 1)] w1 fun e w' => e = .returned (.int .i64 (cheb p c (i + 1))) ∧ w1 = w' from hn.out (i + 1) (by omega) w1))
        clear o2 hO
        generalize cheb p c (i + 1) = X at *
        have m1 := bnd_mul p O X 0 hp hp2 o0 o1 r2.1 r2.2
        have e1 : (i : Int) + 1 - 1 = i := by omega
        rw [show ((i + 1 : Nat) : Int) = (i : Int) + 1 from rfl]
        go_wp2_with (first
          | (go_at_call 43; ((with_reducible refine (hcl.out _).mono ?_); rintro e w3 ⟨rfl, rfl⟩)))
        go_roundw
        case rel => exact ⟨i, O * X % p, by omega, by simp, rfl, Lib.hid ⟨Int.emod_nonneg _ (by omega), Int.emod_lt_of_pos _ (by omega), hO2.out⟩, trivial⟩
        case measure => simp [intOf]
end Go.Proofs.Ytmcffhafonemeaa
