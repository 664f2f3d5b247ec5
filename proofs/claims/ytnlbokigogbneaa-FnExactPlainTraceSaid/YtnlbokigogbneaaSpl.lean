/- Loop values of spins: program, model and law. -/
import Derived.Test.YtnlbokigogbneaaLoopV
namespace Go.Proofs.Ytnlbokigogbneaa
open Go.RowKit
set_option linter.unusedVariables false
/-- The numbers on which entries depend. -/
def spc (p q r : Int) : Array Value := #[.int .i64 p, .int .i64 q, .int .i64 r]
/-- The loop value. -/
def slN (p q : Int) : Int := (-q - rcp p q) % p
theorem spc_own {w : World} {b : Nat} {p q r : Int} {t : TypeId} (h : Own w b (spc p q r) t) : w.cell? ⟨b, 0, none⟩ = some (.int .i64 p) ∧ w.cell? ⟨b, 1, none⟩ = some (.int .i64 q) ∧ w.cell? ⟨b, 2, none⟩ = some (.int .i64 r) := by
  refine ⟨?_, ?_, ?_⟩ <;> rw [h.cell] <;> rfl
set_option maxRecDepth 100000 in
theorem newI_any (p q : Int) (w : World) (h : baseB p q = true) : Calls Try.prog 26 #[.int .i64 p, .int .i64 q] w fun e w' => e = .returned (.agg (spc p q (rcp p q))) ∧ Below w.heap.size w w' := by
  obtain ⟨hpr, hp, hp2, a1, a2⟩ := baseB_t h
  have hi := Lib.hid (fun w1 => (rcpI_any p q w1 hp hp2 (by omega) a2).mono fun e w' h => (show e = .returned (.int .i64 (rcp p q)) ∧ w' = w1 from ⟨h.1, h.2.symm⟩))
  unfold spc
  generalize rcp p q = b at *
  clear h hpr
  go_enter Try.func26, Try.ntmps26
  go_wp2_with (first
    | (go_at_call 45; ((with_reducible refine (hi.out _).mono ?_); rintro e w1 ⟨rfl, rfl⟩))
    | (refine wpList_store_own rfl 43 _ _ rfl _ _ rfl rfl 43 _ (Own.new _ _ _) (by kernel_rfl) rfl (by simp [Value.oneCell']) ?_; intro w4 hO4 hN4))
  refine bodyPost_ret (v := .agg #[.int .i64 p, .int .i64 q, .int .i64 b]) (results_cell_row rfl _ _ _ _ _ (0, 0) _ rfl hO4 Try.underlying43 rfl (by kernel_rfl)) rfl ⟨rfl, ((Below.refl _ _).alloc (Nat.le_refl _) _).trans (hN4.below.mono (Nat.le_refl _))⟩
set_option maxRecDepth 100000 in
theorem lvalI_any (p q r : Int) (w : World) (hp : 2 ≤ p) (hp2 : p ≤ 97) (q0 : 0 ≤ q) (q1 : q < p) (r0 : 0 ≤ r) (r1 : r < p) : Calls Try.prog 27 #[.agg (spc p q r)] w fun e w' => e = .returned (.int .i64 ((-q - r) % p)) ∧ Below w.heap.size w w' := by
  have hm := Lib.hid (fun w1 => (remI_any p (-q - r) w1 hp hp2 (by omega) (by omega)).mono fun e w' h => (show e = .returned (.int .i64 ((-q - r) % p)) ∧ w' = w1 from ⟨h.1, h.2.symm⟩))
  obtain ⟨c0, c1, c2⟩ := spc_own (Own.new w (spc p q r) 43)
  have hB : Below w.heap.size w (w.alloc (.cells (spc p q r) 43)) := (Below.refl _ _).alloc (Nat.le_refl _) _
  go_enter Try.func27, Try.ntmps27
  go_wp2_with (first
    | (go_at_call 46; ((with_reducible refine (hm.out _).mono ?_); rintro e w1 ⟨rfl, rfl⟩)))
  go_ret
  exact ⟨rfl, hB⟩
set_option maxRecDepth 100000 in
theorem slI_ok (p q : Int) (w : World) (h : baseB p q = true) : Calls Try.prog 9 #[.int .i64 p, .int .i64 q] w fun e w' => e = .returned (.tuple #[.int .i64 (slN p q), .int .i64 0]) ∧ Below w.heap.size w w' := by
  have hq := Lib.hid (fun w => baseI_any p q w)
  have hs := Lib.hid (fun w => newI_any p q w h)
  rw [h] at hq
  obtain ⟨hpr, hp, hp2, a1, a2⟩ := baseB_t h
  have hr := rcp_pos p q hpr a1 a2
  have hl := Lib.hid (fun w => lvalI_any p q (rcp p q) w hp hp2 (by omega) a2 (by omega) hr.2)
  unfold slN
  generalize rcp p q = r at *
  clear h
  go_enter Try.func9, Try.ntmps9
  go_wp2_with (first
    | (go_at_call 25; ((with_reducible refine (hq.out _).mono ?_); rintro e w1 ⟨rfl, rfl⟩))
    | (go_at_call 26; ((with_reducible refine (hs.out _).mono ?_); rintro e w2 ⟨rfl, hB2⟩))
    | (go_at_call 27; ((with_reducible refine (hl.out _).mono ?_); rintro e w3 ⟨rfl, hB3⟩)))
  go_ret2
  exact ⟨rfl, hB2.trans (hB3.mono hB2.size)⟩
set_option maxRecDepth 100000 in
theorem slI_bad (p q : Int) (w : World) (h : baseB p q = false) : Calls Try.prog 9 #[.int .i64 p, .int .i64 q] w fun e w' => e = .returned (.tuple #[.int .i64 0, .int .i64 2]) ∧ Below w.heap.size w w' := by
  have hq := Lib.hid (fun w => baseI_any p q w)
  rw [h] at hq
  clear h
  go_enter Try.func9, Try.ntmps9
  go_wp2_with (first
    | (go_at_call 25; ((with_reducible refine (hq.out _).mono ?_); rintro e w1 ⟨rfl, rfl⟩)))
  go_ret2
  exact ⟨rfl, Below.refl _ _⟩
theorem numS_any (p a : Int) (w : World) (hp : -9223372036854775808 ≤ p ∧ p ≤ 9223372036854775807) : Calls Try.prog 23 #[.int .i64 p, .int .i64 a] w fun e w' => e = .returned (.bool (baseB p a)) ∧ w' = w := by
  have hq := Lib.hid (fun w => primeS_any p w hp)
  unfold baseB
  cases hb : primeB p with
  | false =>
    rw [hb] at hq
    rw [Bool.false_and]
    clear hb
    go_enter Try.func23, Try.ntmps23
    go_wp2_with (first
      | (go_at_call 37; ((with_reducible refine (hq.out _).mono ?_); rintro e w1 ⟨rfl, rfl⟩)))
    go_ret
    exact ⟨rfl, rfl⟩
  | true =>
    have h2 := primeB_two hb
    rw [hb] at hq
    rw [Bool.true_and]
    clear hb
    by_cases h : 1 ≤ a ∧ a < p
    · rw [show decide (1 ≤ a ∧ a < p) = true by simp; omega]
      go_enter Try.func23, Try.ntmps23
      go_wp2_with (first
        | (go_at_call 37; ((with_reducible refine (hq.out _).mono ?_); rintro e w1 ⟨rfl, rfl⟩))
        | (go_at_call 29; ((with_reducible refine (inS_t a 1 (p - 1) _ (by omega) (by omega)).mono ?_); rintro e w1 ⟨rfl, rfl⟩)))
      go_ret
      exact ⟨rfl, rfl⟩
    · rw [show decide (1 ≤ a ∧ a < p) = false by simp; omega]
      have h' := Lib.hid (show a < 1 ∨ p - 1 < a by omega)
      clear h
      go_enter Try.func23, Try.ntmps23
      go_wp2_with (first
        | (go_at_call 37; ((with_reducible refine (hq.out _).mono ?_); rintro e w1 ⟨rfl, rfl⟩))
        | (go_at_call 29; ((with_reducible refine (inS_f a 1 (p - 1) _ h'.out).mono ?_); rintro e w1 ⟨rfl, rfl⟩)))
      go_ret
      exact ⟨rfl, rfl⟩
set_option maxRecDepth 100000 in
theorem sloopS_any (p q : Int) (w : World) (h : baseB p q = true) : Calls Try.prog 24 #[.int .i64 p, .int .i64 q] w fun e w' => e = .returned (.int .i64 (slN p q)) ∧ w' = w := by
  obtain ⟨hpr, hp, hp2, a1, a2⟩ := baseB_t h
  have hi := Lib.hid ((invS_any p q w hpr a1 a2).mono fun e w' h => (show e = .returned (.int .i64 (rcp p q)) ∧ w' = w from ⟨h.1, h.2.symm⟩))
  have hr := rcp_pos p q hpr a1 a2
  unfold slN
  generalize rcp p q = b at *
  have hm := Lib.hid ((modS_any p (-q - b) w hp hp2 (by omega) (by omega)).mono fun e w' h => (show e = .returned (.int .i64 ((-q - b) % p)) ∧ w' = w from ⟨h.1, h.2.symm⟩))
  clear h hpr
  go_enter Try.func24, Try.ntmps24
  go_wp2_with (first
    | (go_at_call 31; ((with_reducible refine (hi.out).mono ?_); rintro e w1 ⟨rfl, rfl⟩))
    | (go_at_call 44; ((with_reducible refine (hm.out).mono ?_); rintro e w1 ⟨rfl, rfl⟩)))
  go_ret
  exact ⟨rfl, rfl⟩
set_option maxRecDepth 100000 in
theorem slS_ok (p q : Int) (w : World) (h : baseB p q = true) (hr : -9223372036854775808 ≤ p ∧ p ≤ 9223372036854775807) : Calls Try.prog 8 #[.int .i64 p, .int .i64 q] w fun e w' => e = .returned (.tuple #[.int .i64 (slN p q), .int .i64 0]) ∧ Below w.heap.size w w' := by
  have hq := Lib.hid (fun w => numS_any p q w hr)
  have hs := Lib.hid (fun w => sloopS_any p q w h)
  rw [h] at hq
  clear h
  go_enter Try.func8, Try.ntmps8
  go_wp2_with (first
    | (go_at_call 23; ((with_reducible refine (hq.out _).mono ?_); rintro e w1 ⟨rfl, rfl⟩))
    | (go_at_call 24; ((with_reducible refine (hs.out _).mono ?_); rintro e w2 ⟨rfl, rfl⟩)))
  go_ret2
  exact ⟨rfl, Below.refl _ _⟩
set_option maxRecDepth 100000 in
theorem slS_bad (p q : Int) (w : World) (h : baseB p q = false) (hr : -9223372036854775808 ≤ p ∧ p ≤ 9223372036854775807) : Calls Try.prog 8 #[.int .i64 p, .int .i64 q] w fun e w' => e = .returned (.tuple #[.int .i64 0, .int .i64 2]) ∧ Below w.heap.size w w' := by
  have hq := Lib.hid (fun w => numS_any p q w hr)
  rw [h] at hq
  clear h
  go_enter Try.func8, Try.ntmps8
  go_wp2_with (first
    | (go_at_call 23; ((with_reducible refine (hq.out _).mono ?_); rintro e w1 ⟨rfl, rfl⟩)))
  go_ret2
  exact ⟨rfl, Below.refl _ _⟩
theorem sl_both (p a : Int) (hr : -9223372036854775808 ≤ p ∧ p ≤ 9223372036854775807) : ∃ x y : Int, (∀ w, Calls Try.prog 8 #[.int .i64 p, .int .i64 a] w fun e w' => e = .returned (.tuple #[.int .i64 x, .int .i64 y]) ∧ Below w.heap.size w w')
    ∧ (∀ w, Calls Try.prog 9 #[.int .i64 p, .int .i64 a] w fun e w' => e = .returned (.tuple #[.int .i64 x, .int .i64 y]) ∧ Below w.heap.size w w') := by
  cases h : baseB p a with
  | true => exact ⟨_, _, fun w => slS_ok p a w h hr, fun w => slI_ok p a w h⟩
  | false => exact ⟨_, _, fun w => slS_bad p a w h hr, fun w => slI_bad p a w h⟩
set_option maxRecDepth 100000 in
theorem sl_law (p a : Int) (W : World) (hr : -9223372036854775808 ≤ p ∧ p ≤ 9223372036854775807) : Calls Try.prog 3 #[.int .i64 p, .int .i64 a] W fun e w' => e = .returned (.bool true) ∧ Below W.heap.size W w' := by
  obtain ⟨x, y, hS0, hI0⟩ := sl_both p a hr
  have hS := Lib.hid hS0
  have hI := Lib.hid hI0
  clear hS0 hI0 hr
  go_enter Try.func3, Try.ntmps3
  go_wp2_with (first
    | (go_at_call 8; ((with_reducible refine (hS.out _).mono ?_); rintro e w1 ⟨rfl, hB1⟩))
    | (go_at_call 9; ((with_reducible refine (hI.out _).mono ?_); rintro e w2 ⟨rfl, hB2⟩)))
  go_ret
  exact ⟨rfl, hB1.trans (hB2.mono hB1.size)⟩
end Go.Proofs.Ytnlbokigogbneaa
