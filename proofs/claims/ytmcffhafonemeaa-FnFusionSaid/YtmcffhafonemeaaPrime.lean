/- Both tests of primes. -/
import Derived.Test.YtmcffhafonemeaaBase
import Derived.Test.YtmcffhafonemeaaSpecA
namespace Go.Proofs.Ytmcffhafonemeaa
open Go.RowKit
set_option linter.unusedVariables false
/-- No number from 2 up to, and without, m divides p. -/
def NoDiv (p : Int) (m : Nat) : Prop := ∀ j : Nat, j < m → 2 ≤ j → p.tmod j ≠ 0
instance (p : Int) (m : Nat) : Decidable (NoDiv p m) := by unfold NoDiv; exact inferInstance
def primeB (p : Int) : Bool := decide (2 ≤ p ∧ p ≤ 97 ∧ NoDiv p p.toNat)
theorem NoDiv.next {p : Int} {m : Nat} (h : NoDiv p m) (hm : p.tmod m ≠ 0) : NoDiv p (m + 1) := by
  intro j hj h2
  by_cases e : j = m
  · subst e; exact hm
  · exact h j (by omega) h2
theorem NoDiv.root {p : Int} {m : Nat} (h : NoDiv p m) (h2 : 2 ≤ m) (hp : 2 ≤ p) (hm : p < (m : Int) * m) : NoDiv p p.toNat := by
  intro j jp j2 hj
  obtain ⟨P, rfl⟩ : ∃ P : Nat, p = P := ⟨p.toNat, by omega⟩
  have hd : P % j = 0 := by
    have : ((P % j : Nat) : Int) = 0 := by rw [← hj]; exact Int.ofNat_tmod P j
    omega
  obtain ⟨q, rfl⟩ := Nat.dvd_of_mod_eq_zero hd
  by_cases hjm : j < m
  · exact h j hjm j2 hj
  · have hmm : j * q < m * m := by exact_mod_cast hm
    have q2 : 2 ≤ q := by
      refine Decidable.byContradiction fun hn => ?_
      have : q = 0 ∨ q = 1 := by omega
      rcases this with rfl | rfl
      · simp at hp
      · simp at jp
    have qm : q < m := by
      refine Decidable.byContradiction fun hn => ?_
      have : m * m ≤ j * q := Nat.mul_le_mul (by omega) (by omega)
      omega
    refine h q qm q2 ?_
    have : (j * q) % q = 0 := Nat.mul_mod_left j q
    rw [show (((j * q : Nat) : Int)).tmod (q : Int) = (((j * q) % q : Nat) : Int) from (Int.ofNat_tmod (j * q) q).symm, this]; rfl
set_option maxRecDepth 100000 in
set_option maxHeartbeats 1000000 in
theorem primeI_any (p : Int) (w : World) : Calls Try.prog 50 #[.int .i64 p] w fun e w' => e = .returned (.bool (primeB p)) ∧ w' = w := by
  by_cases h2 : p < 2
  · have e : primeB p = false := by unfold primeB; simp; omega
    rw [e]; clear e
    go_enter Try.func50, Try.ntmps50
    go_wp2
    go_ret
    exact ⟨rfl, rfl⟩
  · by_cases h97 : 97 < p
    · have e : primeB p = false := by unfold primeB; simp; omega
      rw [e]; clear e
      go_enter Try.func50, Try.ntmps50
      go_wp2
      go_ret
      exact ⟨rfl, rfl⟩
    · obtain ⟨b, hb⟩ : ∃ b, primeB p = b := ⟨_, rfl⟩
      rw [hb]
      have hb' := Lib.hid hb
      clear hb
      go_enter Try.func50, Try.ntmps50
      go_wp2
      go_loopw [3] (fun i wr => ∃ k : Nat, 2 ≤ k ∧ k ≤ 98 ∧ i = .int .i64 k ∧ Hid (NoDiv p k) ∧ wr = w) (fun i _ => (98 - intOf i).toNat)
      case atStart => exact ⟨2, by omega, by omega, rfl, Lib.hid (fun j a b => by omega), rfl⟩
      case round =>
        obtain ⟨k, hk2, hk98, rfl, hD, rfl⟩ := hrel
        have hkk : (k : Int) * k ≤ 9604 := by
          have : k * k ≤ 98 * 98 := Nat.mul_le_mul hk98 hk98
          omega
        have hkk0 : (0 : Int) ≤ (k : Int) * k := by exact_mod_cast Nat.zero_le _
        by_cases hlt : (k : Int) * k ≤ p
        · have kp : k < p.toNat := by
            have : (k : Int) * 2 ≤ (k : Int) * k := Int.mul_le_mul_of_nonneg_left (by omega) (by omega)
            omega
          by_cases hd : p.tmod k = 0
          · have e : b = false := by
              rw [← hb'.out]; unfold primeB
              rw [decide_eq_false_iff_not]
              exact fun h => h.2.2 k kp hk2 hd
            subst e
            go_wp2
            go_ret
            exact ⟨rfl, rfl⟩
          · have hD2 := Lib.hid (hD.out.next hd)
            have hd2 : (p % (k : Int) == 0) = false := by rw [beq_eq_false_iff_ne, ← Int.tmod_eq_emod_of_nonneg (by omega)]; exact hd
            have kp2 : (k : Int) < p := by omega
            clear hd kp
            go_wp2
            go_roundw
            case rel => exact ⟨k + 1, by omega, by omega, by go_num, hD2, trivial⟩
            case measure => simp [intOf]; omega
        · have e : b = true := by
            rw [← hb'.out]; unfold primeB
            rw [decide_eq_true_iff]
            exact ⟨by omega, by omega, hD.out.root hk2 (by omega) (by omega)⟩
          subst e
          go_wp2
          go_ret
          exact ⟨rfl, rfl⟩
set_option maxRecDepth 100000 in
set_option maxHeartbeats 1000000 in
theorem primeS_any (p : Int) (w : World) (hp : -9223372036854775808 ≤ p ∧ p ≤ 9223372036854775807) : Calls Try.prog 51 #[.int .i64 p] w fun e w' => e = .returned (.bool (primeB p)) ∧ w' = w := by
  obtain ⟨b, hb⟩ : ∃ b, primeB p = b := ⟨_, rfl⟩
  rw [hb]
  have hb' := Lib.hid hb
  clear hb
  obtain ⟨hp1, hp2⟩ := hp
  go_enter Try.func51, Try.ntmps51
  go_wp2
  go_loopw [3] (fun i wr => ∃ k : Nat, 2 ≤ k ∧ k ≤ 100 ∧ i = .int .i64 k ∧ Hid (NoDiv p k) ∧ wr = w) (fun i _ => (100 - intOf i).toNat)
  case atStart => exact ⟨2, by omega, by omega, rfl, Lib.hid (fun j a b => by omega), rfl⟩
  case round =>
    obtain ⟨k, hk2, hk98, rfl, hD, rfl⟩ := hrel
    by_cases hlt : (k : Int) < p
    · by_cases h100 : (k : Int) < 100
      · have h0 : ¬ ((k : Int) = 0) := by omega
        by_cases hd : p.tmod k = 0
        · have e : b = false := by
            rw [← hb'.out]; unfold primeB
            rw [decide_eq_false_iff_not]
            exact fun h => h.2.2 k (by omega) hk2 hd
          subst e
          go_wp2
          go_ret
          exact ⟨rfl, rfl⟩
        · have hD2 := Lib.hid (hD.out.next hd)
          have hd2 : (p % (k : Int) == 0) = false := by rw [beq_eq_false_iff_ne, ← Int.tmod_eq_emod_of_nonneg (by omega)]; exact hd
          clear hd
          go_wp2
          go_roundw
          case rel => exact ⟨k + 1, by omega, by omega, by go_num, hD2, trivial⟩
          case measure => simp [intOf]; omega
      · have e : b = false := by
          rw [← hb'.out]; unfold primeB
          rw [decide_eq_false_iff_not]
          exact fun h => by omega
        subst e
        go_wp2_with (first
          | (go_at_call 42; ((with_reducible refine (inS_f p 2 97 _ (by omega)).mono ?_); rintro e w0 ⟨rfl, hw⟩)))
        go_ret
        exact ⟨rfl, hw.symm⟩
    · by_cases h97 : 2 ≤ p ∧ p ≤ 97
      · have e : b = true := by
          rw [← hb'.out]; unfold primeB
          rw [decide_eq_true_iff]
          exact ⟨h97.1, h97.2, fun j hj h2 => hD.out j (by omega) h2⟩
        subst e
        obtain ⟨q1, q2⟩ := h97
        go_wp2_with (first
          | (go_at_call 42; ((with_reducible refine (inS_t p 2 97 _ q1 q2).mono ?_); rintro e w0 ⟨rfl, hw⟩)))
        go_ret
        exact ⟨rfl, hw.symm⟩
      · have e : b = false := by
          rw [← hb'.out]; unfold primeB
          rw [decide_eq_false_iff_not]
          exact fun h => by omega
        subst e
        go_wp2_with (first
          | (go_at_call 42; ((with_reducible refine (inS_f p 2 97 _ (by omega)).mono ?_); rintro e w0 ⟨rfl, hw⟩)))
        go_ret
        exact ⟨rfl, hw.symm⟩
set_option maxRecDepth 100000 in
theorem modI_any (p c : Int) (w : World) : Calls Try.prog 34 #[.int .i64 p, .int .i64 c] w fun e w' => e = .returned (.bool (primeB p && decide (0 ≤ c ∧ c < p))) ∧ w' = w := by
  have hq := Lib.hid (fun w => primeI_any p w)
  obtain ⟨b, hb⟩ : ∃ b, primeB p = b := ⟨_, rfl⟩
  rw [hb] at hq ⊢
  clear hb
  cases b with
  | false =>
    rw [Bool.false_and]
    go_enter Try.func34, Try.ntmps34
    go_wp2_with (first
      | (go_at_call 50; ((with_reducible refine (hq.out _).mono ?_); rintro e w1 ⟨rfl, hw⟩)))
    go_ret
    exact ⟨rfl, rfl⟩
  | true =>
    rw [Bool.true_and]
    by_cases h : 0 ≤ c
    · by_cases h2 : c < p
      · rw [show decide (0 ≤ c ∧ c < p) = true by simp [h, h2]]
        go_enter Try.func34, Try.ntmps34
        go_wp2_with (first
          | (go_at_call 50; ((with_reducible refine (hq.out _).mono ?_); rintro e w1 ⟨rfl, hw⟩)))
        go_ret
        exact ⟨by simp, rfl⟩
      · rw [show decide (0 ≤ c ∧ c < p) = false by simp; omega]
        go_enter Try.func34, Try.ntmps34
        go_wp2_with (first
          | (go_at_call 50; ((with_reducible refine (hq.out _).mono ?_); rintro e w1 ⟨rfl, hw⟩)))
        go_ret
        exact ⟨by simp <;> omega, rfl⟩
    · rw [show decide (0 ≤ c ∧ c < p) = false by simp; omega]
      go_enter Try.func34, Try.ntmps34
      go_wp2_with (first
        | (go_at_call 50; ((with_reducible refine (hq.out _).mono ?_); rintro e w1 ⟨rfl, hw⟩)))
      go_ret
      exact ⟨by simp <;> omega, rfl⟩
end Go.Proofs.Ytmcffhafonemeaa
