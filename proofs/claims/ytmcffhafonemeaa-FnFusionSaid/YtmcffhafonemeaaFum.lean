/- Fusion: what does not depend on the order of the labels. -/
import Derived.Test.YtmcffhafonemeaaThe
import Derived.Test.YtmcffhafonemeaaFus
import Derived.Test.YtmcffhafonemeaaLawChe
import Derived.Test.YtmcffhafonemeaaLawPath
namespace Go.Proofs.Ytmcffhafonemeaa
open Go.RowKit
set_option linter.unusedVariables false
theorem emm (p u v : Int) : u % p * v % p = u * v % p := by
  rw [Int.mul_emod (u % p) v, Int.emod_emod, ← Int.mul_emod]
theorem em3 (p A X Y V : Int) : A * X % p * Y % p * V % p = A * X * Y * V % p := by
  rw [emm p (A * X % p * Y) V]
  rw [show A * X % p * Y * V = A * X % p * (Y * V) from Int.mul_assoc _ _ _, emm, ← Int.mul_assoc]
theorem thS_eq (p c x y v : Int) : thS p c x y v = gz p c (x + y + v) * gz p c (x - 1) * gz p c (y - 1) * gz p c (v - 1) % p * rcp p (gz p c (y + v - 1) * gz p c (v + x - 1) * gz p c (x + y - 1) % p) % p := by
  unfold thS
  rw [em3 p (gz p c (x + y + v)) (gz p c (x - 1)) (gz p c (y - 1)) (gz p c (v - 1)), emm p (gz p c (y + v - 1) * gz p c (v + x - 1)) (gz p c (x + y - 1))]
theorem thS_rot (p c x y v : Int) : thS p c y v x = thS p c x y v := by
  rw [thS_eq, thS_eq, show y + v + x = x + y + v by omega]
  rw [show gz p c (v + x - 1) * gz p c (x + y - 1) * gz p c (y + v - 1) = gz p c (y + v - 1) * gz p c (v + x - 1) * gz p c (x + y - 1) by ac_rfl]
  rw [show gz p c (x + y + v) * gz p c (y - 1) * gz p c (v - 1) * gz p c (x - 1) = gz p c (x + y + v) * gz p c (x - 1) * gz p c (y - 1) * gz p c (v - 1) by ac_rfl]
theorem thS_swp (p c x y v : Int) : thS p c x v y = thS p c x y v := by
  rw [thS_eq, thS_eq, show x + v + y = x + y + v by omega, show v + y - 1 = y + v - 1 by omega, show y + x - 1 = x + y - 1 by omega, show x + v - 1 = v + x - 1 by omega]
  rw [show gz p c (y + v - 1) * gz p c (x + y - 1) * gz p c (v + x - 1) = gz p c (y + v - 1) * gz p c (v + x - 1) * gz p c (x + y - 1) by ac_rfl]
  rw [show gz p c (x + y + v) * gz p c (x - 1) * gz p c (v - 1) * gz p c (y - 1) = gz p c (x + y + v) * gz p c (x - 1) * gz p c (y - 1) * gz p c (v - 1) by ac_rfl]
theorem adm_rot (z a b d : Int) : admB z b d a = admB z a b d := decide_eq_decide.2 (by omega)
theorem adm_swp (z a b d : Int) : admB z b a d = admB z a b d := decide_eq_decide.2 (by omega)
theorem adm_rev (z a b d : Int) : admB z d b a = admB z a b d := decide_eq_decide.2 (by omega)
theorem lab_rot (z a b d : Int) : labB z [b, d, a] = labB z [a, b, d] := by
  simp only [labB, List.all_cons, List.all_nil, Bool.and_true]
  cases decide (0 ≤ a ∧ a < z) <;> cases decide (0 ≤ b ∧ b < z) <;> cases decide (0 ≤ d ∧ d < z) <;> rfl
theorem lab_swp (z a b d : Int) : labB z [b, a, d] = labB z [a, b, d] := by
  simp only [labB, List.all_cons, List.all_nil, Bool.and_true]
  cases decide (0 ≤ a ∧ a < z) <;> cases decide (0 ≤ b ∧ b < z) <;> cases decide (0 ≤ d ∧ d < z) <;> rfl
theorem lab_rev (z a b d : Int) : labB z [d, b, a] = labB z [a, b, d] := by
  simp only [labB, List.all_cons, List.all_nil, Bool.and_true]
  cases decide (0 ≤ a ∧ a < z) <;> cases decide (0 ≤ b ∧ b < z) <;> cases decide (0 ≤ d ∧ d < z) <;> rfl
theorem lab_two (z a b : Int) : labB z [b, a] = labB z [a, b] := by
  simp only [labB, List.all_cons, List.all_nil, Bool.and_true]
  cases decide (0 ≤ a ∧ a < z) <;> cases decide (0 ≤ b ∧ b < z) <;> rfl
theorem fus_swp (z a b : Int) (n : Nat) : fusL z b a n = fusL z a b n := by
  induction n with
  | zero => rfl
  | succ n ih => unfold fusL; rw [adm_swp, ih]
/-- What a theta number is, both sides, and in other orders where it is one. -/
theorem the_sym (p c a b d : Int) (hr : -9223372036854775808 ≤ p ∧ p ≤ 9223372036854775807) : ∃ (x y : Int), (∀ w, Calls Try.prog 7 #[.int .i64 p, .int .i64 c, .int .i64 a, .int .i64 b, .int .i64 d] w fun e w' => e = .returned (.tuple #[.int .i64 x, .int .i64 y]) ∧ Below w.heap.size w w')
    ∧ (∀ w, Calls Try.prog 6 #[.int .i64 p, .int .i64 c, .int .i64 a, .int .i64 b, .int .i64 d] w fun e w' => e = .returned (.tuple #[.int .i64 x, .int .i64 y]) ∧ Below w.heap.size w w')
    ∧ (y = 0 → (∀ w, Calls Try.prog 6 #[.int .i64 p, .int .i64 c, .int .i64 b, .int .i64 d, .int .i64 a] w fun e w' => e = .returned (.tuple #[.int .i64 x, .int .i64 0]) ∧ Below w.heap.size w w')
      ∧ (∀ w, Calls Try.prog 6 #[.int .i64 p, .int .i64 c, .int .i64 b, .int .i64 a, .int .i64 d] w fun e w' => e = .returned (.tuple #[.int .i64 x, .int .i64 0]) ∧ Below w.heap.size w w')
      ∧ (∀ w, Calls Try.prog 8 #[.int .i64 p, .int .i64 c, .int .i64 d, .int .i64 b, .int .i64 a] w fun e w' => e = .returned (.tuple #[.bool true, .int .i64 0]) ∧ Below w.heap.size w w')) := by
  cases h : modB p c with
  | false => exact ⟨_, _, fun w => theS_bad p c a b d w hr h, fun w => theI_code p c a b d w false (isadI_bad p c a b d w h), fun e => absurd e (by decide)⟩
  | true =>
    cases hL : labB (fz p c) [a, b, d] with
    | false => exact ⟨_, _, fun w => theS_lab p c a b d w h hL, fun w => theI_code p c a b d w false (by
        have := isadI_ok p c a b d w h
        rw [hL, Bool.false_and, if_neg (by simp)] at this
        exact this), fun e => absurd e (by decide)⟩
    | true =>
      cases hA : admB (fz p c) a b d with
      | false => exact ⟨_, _, fun w => theS_no p c a b d w h hL hA, fun w => theI_no p c a b d w (by
          have := isadI_ok p c a b d w h
          rw [hL, hA, Bool.and_false, if_pos rfl] at this
          exact this), fun e => absurd e (by decide)⟩
      | true =>
        obtain ⟨hpr, hp, hp2, hc0, hc1⟩ := modB_spec h
        obtain ⟨z0, z1, z97⟩ := has_zero p c hpr hc0 hc1
        obtain ⟨⟨a0, a1⟩, ⟨b0, b1⟩, d0, d1⟩ := labB_three hL
        have hA' := hA
        unfold admB at hA'
        rw [decide_eq_true_iff] at hA'
        obtain ⟨m2, t1, t2, t3, t4⟩ := hA'
        have hs := th_same p c ((a + b - d) / 2) ((b + d - a) / 2) ((d + a - b) / 2) hpr (by omega) (by omega) (by omega) z1
        have hs2 := th_same p c ((b + d - a) / 2) ((d + a - b) / 2) ((a + b - d) / 2) hpr (by omega) (by omega) (by omega) z1
        have hs3 := th_same p c ((a + b - d) / 2) ((d + a - b) / 2) ((b + d - a) / 2) hpr (by omega) (by omega) (by omega) z1
        refine ⟨thS p c ((a + b - d) / 2) ((b + d - a) / 2) ((d + a - b) / 2), 0, fun w => theS_ok p c a b d _ _ _ w h hL hA rfl rfl rfl, fun w => by rw [← hs]; exact theI_ok p c a b d _ _ _ w h hL hA rfl rfl rfl, fun _ => ⟨fun w => ?_, fun w => ?_, fun w => ?_⟩⟩
        · rw [← thS_rot, ← hs2]
          exact theI_ok p c b d a _ _ _ w h (by rw [lab_rot]; exact hL) (by rw [adm_rot]; exact hA) rfl rfl rfl
        · rw [← thS_swp, ← hs3]
          exact theI_ok p c b a d _ _ _ w h (by rw [lab_swp]; exact hL) (by rw [adm_swp]; exact hA) (by rw [Int.add_comm b a]) (by rw [Int.add_comm a d]) (by rw [Int.add_comm d b])
        · have := isadI_ok p c d b a w h
          rw [lab_rev, adm_rev, hL, hA] at this
          exact this
/-- Fusion, both sides and both orders. -/
theorem fus_sym (p c a b : Int) (hr : -9223372036854775808 ≤ p ∧ p ≤ 9223372036854775807) : ∃ (xs : List Int) (k : Int), xs.length ≤ 97 ∧ (∀ w, Calls Try.prog 11 #[.int .i64 p, .int .i64 c, .int .i64 a, .int .i64 b] w (ResI xs k w)) ∧ (∀ w, Calls Try.prog 10 #[.int .i64 p, .int .i64 c, .int .i64 a, .int .i64 b] w (ResI xs k w)) ∧ (∀ w, Calls Try.prog 10 #[.int .i64 p, .int .i64 c, .int .i64 b, .int .i64 a] w (ResI xs k w)) := by
  cases h : modB p c with
  | true => exact ⟨_, _, by
      obtain ⟨hpr, hp, hp2, c0, c1⟩ := modB_spec h
      have := (has_zero p c hpr c0 c1).2.2
      have := fusL_len (fz p c) a b (fz p c)
      split
      · omega
      · simp, fun w => fusS_ok p c a b w h, fun w => fusI_ok p c a b w h, fun w => by
        have := fusI_ok p c b a w h
        rw [lab_two, fus_swp] at this
        exact this⟩
  | false => exact ⟨[], 2, by simp, fun w => fusS_bad p c a b w hr h, fun w => fusI_bad p c a b w h, fun w => fusI_bad p c b a w h⟩
/-- First zeros, both sides; they are zeros. -/
theorem fz_zero (p c : Int) (hr : -9223372036854775808 ≤ p ∧ p ≤ 9223372036854775807) : ∃ z y : Int, (∀ w, Calls Try.prog 15 #[.int .i64 p, .int .i64 c] w fun e w' => e = .returned (.tuple #[.int .i64 z, .int .i64 y]) ∧ Below w.heap.size w w')
    ∧ (∀ w, Calls Try.prog 14 #[.int .i64 p, .int .i64 c] w fun e w' => e = .returned (.tuple #[.int .i64 z, .int .i64 y]) ∧ Below w.heap.size w w')
    ∧ (y = 0 → 1 ≤ z ∧ z ≤ 97 ∧ ∀ w, Calls Try.prog 16 #[.int .i64 p, .int .i64 c, .int .i64 z] w fun e w' => e = .returned (.tuple #[.int .i64 0, .int .i64 0]) ∧ Below w.heap.size w w') := by
  cases h : modB p c with
  | true =>
    obtain ⟨hpr, hp, hp2, c0, c1⟩ := modB_spec h
    obtain ⟨z0, z1, z97⟩ := has_zero p c hpr c0 c1
    refine ⟨_, _, fun w => (fzS_ok p c w h).mono fun e w' h => up_l h, fun w => fzI_ok p c w h, fun _ => ⟨by omega, by omega, fun w => ?_⟩⟩
    have := chebI_ok p c (fz p c) w h (by omega)
    rw [z0] at this
    exact this
  | false => exact ⟨0, 2, fun w => (fzS_bad p c w hr h).mono fun e w' h => up_l h, fun w => (fzI_bad p c w h).mono fun e w' h => up_r h, fun e => absurd e (by decide)⟩
end Go.Proofs.Ytmcffhafonemeaa
