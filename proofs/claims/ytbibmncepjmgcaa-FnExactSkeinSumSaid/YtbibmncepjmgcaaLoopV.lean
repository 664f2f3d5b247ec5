/- Loop values of braids: program, model and law. -/
import Derived.Test.YtbibmncepjmgcaaKd
import Derived.Test.YtbibmncepjmgcaaKa
namespace Go.Proofs.Ytbibmncepjmgcaa
open Go.RowKit
set_option linter.unusedVariables false
/-- p is a prime, and a an A for it. -/
def baseB (p a : Int) : Bool := primeB p && decide (1 ≤ a ∧ a < p)
theorem baseB_t {p a : Int} (h : baseB p a = true) : primeB p = true ∧ 2 ≤ p ∧ p ≤ 97 ∧ 1 ≤ a ∧ a < p := by
  unfold baseB at h
  rw [Bool.and_eq_true, decide_eq_true_iff] at h
  exact ⟨h.1, (primeB_two h.1).1, (primeB_two h.1).2, h.2.1, h.2.2⟩
/-- The loop value. -/
def lvN (p a : Int) : Int := (-a * a - rcp p a * rcp p a) % p
theorem baseI_any (p a : Int) (w : World) : Calls Try.prog 44 #[.int .i64 p, .int .i64 a] w fun e w' => e = .returned (.bool (baseB p a)) ∧ w' = w := by
  have hq := Lib.hid (fun w => primeI_any p w)
  unfold baseB
  cases hb : primeB p with
  | false =>
    rw [hb] at hq
    clear hb
    rw [Bool.false_and]
    go_enter Try.func44, Try.ntmps44
    go_wp2_with (first
      | (go_at_call 86; ((with_reducible refine (hq.out _).mono ?_); rintro e w1 ⟨rfl, rfl⟩)))
    go_ret
    exact ⟨rfl, rfl⟩
  | true =>
    rw [hb] at hq
    clear hb
    rw [Bool.true_and]
    by_cases h1 : 1 ≤ a
    · by_cases h2 : a < p
      · rw [show decide (1 ≤ a ∧ a < p) = true by simp; omega]
        go_enter Try.func44, Try.ntmps44
        go_wp2_with (first
          | (go_at_call 86; ((with_reducible refine (hq.out _).mono ?_); rintro e w1 ⟨rfl, rfl⟩)))
        go_ret
        exact ⟨by first | rfl | (simp <;> omega), rfl⟩
      · rw [show decide (1 ≤ a ∧ a < p) = false by simp; omega]
        go_enter Try.func44, Try.ntmps44
        go_wp2_with (first
          | (go_at_call 86; ((with_reducible refine (hq.out _).mono ?_); rintro e w1 ⟨rfl, rfl⟩)))
        go_ret
        exact ⟨by first | rfl | (simp <;> omega), rfl⟩
    · rw [show decide (1 ≤ a ∧ a < p) = false by simp; omega]
      go_enter Try.func44, Try.ntmps44
      go_wp2_with (first
        | (go_at_call 86; ((with_reducible refine (hq.out _).mono ?_); rintro e w1 ⟨rfl, rfl⟩)))
      go_ret
      exact ⟨by first | rfl | (simp <;> omega), rfl⟩
theorem baseS_any (p a : Int) (w : World) (hp : -9223372036854775808 ≤ p ∧ p ≤ 9223372036854775807) : Calls Try.prog 83 #[.int .i64 p, .int .i64 a] w fun e w' => e = .returned (.bool (baseB p a)) ∧ w' = w := by
  have hq := Lib.hid (fun w => primeS_any p w hp)
  unfold baseB
  cases hb : primeB p with
  | false =>
    rw [hb] at hq
    rw [Bool.false_and]
    clear hb
    go_enter Try.func83, Try.ntmps83
    go_wp2_with (first
      | (go_at_call 65; ((with_reducible refine (hq.out _).mono ?_); rintro e w1 ⟨rfl, rfl⟩)))
    go_ret
    exact ⟨rfl, rfl⟩
  | true =>
    have h2 := primeB_two hb
    rw [hb] at hq
    rw [Bool.true_and]
    clear hb
    by_cases h : 1 ≤ a ∧ a < p
    · rw [show decide (1 ≤ a ∧ a < p) = true by simp; omega]
      go_enter Try.func83, Try.ntmps83
      go_wp2_with (first
        | (go_at_call 65; ((with_reducible refine (hq.out _).mono ?_); rintro e w1 ⟨rfl, rfl⟩))
        | (go_at_call 54; ((with_reducible refine (inS_t a 1 (p - 1) _ (by omega) (by omega)).mono ?_); rintro e w1 ⟨rfl, rfl⟩)))
      go_ret
      exact ⟨rfl, rfl⟩
    · rw [show decide (1 ≤ a ∧ a < p) = false by simp; omega]
      have h' := Lib.hid (show a < 1 ∨ p - 1 < a by omega)
      clear h
      go_enter Try.func83, Try.ntmps83
      go_wp2_with (first
        | (go_at_call 65; ((with_reducible refine (hq.out _).mono ?_); rintro e w1 ⟨rfl, rfl⟩))
        | (go_at_call 54; ((with_reducible refine (inS_f a 1 (p - 1) _ h'.out).mono ?_); rintro e w1 ⟨rfl, rfl⟩)))
      go_ret
      exact ⟨rfl, rfl⟩
theorem lv_bound {p a b : Int} (hp2 : p ≤ 97) (a0 : 0 ≤ a) (a1 : a < p) (b0 : 0 ≤ b) (b1 : b < p) : -9409 ≤ -a * a ∧ -a * a ≤ 0 ∧ 0 ≤ b * b ∧ b * b ≤ 9409 ∧ -9409 * 2 ≤ -a * a - b * b ∧ -a * a - b * b ≤ 0 := by
  have h1 : a * a ≤ 97 * a := Int.mul_le_mul_of_nonneg_right (by omega) a0
  have h2 : b * b ≤ 97 * b := Int.mul_le_mul_of_nonneg_right (by omega) b0
  have h3 : 0 ≤ a * a := Int.mul_nonneg a0 a0
  have h4 : 0 ≤ b * b := Int.mul_nonneg b0 b0
  have h5 : -a * a = -(a * a) := by rw [Int.neg_mul]
  omega
set_option maxRecDepth 100000 in
theorem loopS_any (p a : Int) (w : World) (h : baseB p a = true) : Calls Try.prog 84 #[.int .i64 p, .int .i64 a] w fun e w' => e = .returned (.int .i64 (lvN p a)) ∧ w' = w := by
  obtain ⟨hpr, hp, hp2, a1, a2⟩ := baseB_t h
  have hi := Lib.hid ((invS_any p a w hpr a1 a2).mono fun e w' h => (show e = .returned (.int .i64 (rcp p a)) ∧ w' = w from ⟨h.1, h.2.symm⟩))
  have hr := rcp_pos p a hpr a1 a2
  unfold lvN
  generalize rcp p a = b at *
  obtain ⟨b1, b2, b3, b4, b5, b6⟩ := lv_bound hp2 (by omega) a2 (show 0 ≤ b by omega) hr.2
  have hm := Lib.hid ((modS_any p (-a * a - b * b) w hp hp2 (by omega) (by omega)).mono fun e w' h => (show e = .returned (.int .i64 ((-a * a - b * b) % p)) ∧ w' = w from ⟨h.1, h.2.symm⟩))
  clear h hpr
  go_enter Try.func84, Try.ntmps84
  go_wp2_with (first
    | (go_at_call 55; ((with_reducible refine (hi.out).mono ?_); rintro e w1 ⟨rfl, rfl⟩))
    | (go_at_call 58; ((with_reducible refine (hm.out).mono ?_); rintro e w1 ⟨rfl, rfl⟩)))
  go_ret
  exact ⟨rfl, rfl⟩
/-- The cells of a skein. -/
def skc (p a n : Int) : Array Value := #[.int .i64 a, .int .i64 (rcp p a), .int .i64 p, .int .i64 (lvN p a), .int .i64 n, .slice none 0 0]
set_option maxRecDepth 100000 in
theorem skeinI_any (p a n : Int) (w : World) (h : baseB p a = true) : Calls Try.prog 46 #[.int .i64 p, .int .i64 a, .int .i64 n] w fun e w' => e = .returned (.agg (skc p a n)) ∧ Below w.heap.size w w' := by
  obtain ⟨hpr, hp, hp2, a1, a2⟩ := baseB_t h
  have hi := Lib.hid (fun w1 => (rcpI_any p a w1 hp hp2 (by omega) a2).mono fun e w' h => (show e = .returned (.int .i64 (rcp p a)) ∧ w' = w1 from ⟨h.1, h.2.symm⟩))
  have hr := rcp_pos p a hpr a1 a2
  unfold skc lvN
  generalize rcp p a = b at *
  obtain ⟨b1, b2, b3, b4, b5, b6⟩ := lv_bound hp2 (by omega) a2 (show 0 ≤ b by omega) hr.2
  have hm := Lib.hid (fun w1 => (remI_any p (-a * a - b * b) w1 hp hp2 (by omega) (by omega)).mono fun e w' h => (show e = .returned (.int .i64 ((-a * a - b * b) % p)) ∧ w' = w1 from ⟨h.1, h.2.symm⟩))
  clear h hpr
  go_enter Try.func46, Try.ntmps46
  go_wp2_with (first
    | (go_at_call 88; ((with_reducible refine (hi.out _).mono ?_); rintro e w1 ⟨rfl, rfl⟩))
    | (go_at_call 89; ((with_reducible refine (hm.out _).mono ?_); rintro e w1 ⟨rfl, rfl⟩))
    | (refine wpList_store_own rfl 71 _ _ rfl _ _ rfl rfl 71 _ (Own.new _ _ _) (by kernel_rfl) rfl (by simp [Value.oneCell']) ?_; intro w4 hO4 hN4))
  refine bodyPost_ret (v := .agg #[.int .i64 a, .int .i64 b, .int .i64 p, .int .i64 ((-a * a - b * b) % p), .int .i64 n, .slice none 0 0]) (results_cell_row rfl _ _ _ _ _ (0, 0) _ rfl hO4 Try.underlying71 rfl (by kernel_rfl)) rfl ⟨rfl, ((Below.refl _ _).alloc (Nat.le_refl _) _).trans (hN4.below.mono (Nat.le_refl _))⟩
theorem field_like (a b p l n v : Value) : ∀ w : World, (Instr.field 71 (.agg #[a, b, p, l, n, v]) 2).run Try.prog w = .ok (.agg #[p, l, n, v]) w := by
  intro w; kernel_rfl
theorem field_loop (p l n v : Value) : ∀ w : World, (Instr.field 30 (.agg #[p, l, n, v]) 1).run Try.prog w = .ok l w := by
  intro w; kernel_rfl
end Go.Proofs.Ytbibmncepjmgcaa
