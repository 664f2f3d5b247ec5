/- The contract of the program's IsPartition. -/
import Derived.Test.YtlgdeciikliihaaPis
namespace Go.Proofs.Ytlgdeciikliihaa
open Go.RowKit
set_option linter.unusedVariables false
/-- A slice of the numbers of a partition in memory. -/
theorem sl8 (b : Nat) (n : Int) (h1 : 1 ≤ n) (h4 : n ≤ 4) : ∀ w : World, (Instr.sliceAt 25 (.pointer (some ⟨b, 1, none⟩)) none (some (.int .i64 (2 * n))) none).run Try.prog w = .ok (.slice (some ⟨b, 1, none⟩) (2 * n).toNat 8) w := by
  have h : n = 1 ∨ n = 2 ∨ n = 3 ∨ n = 4 := by omega
  clear h1 h4
  rcases h with rfl | rfl | rfl | rfl <;> (intro w; kernel_rfl)
theorem Own.rdP {w : World} {b : Nat} {n : Int} {ms : List Int} {t : TypeId} (h : Own w b (dcells n ms) t) (i N : Nat) (hN : i + N ≤ ms.length) : Rdf (Value.int .u8) w b (1 + i) ((ms.drop i).take N) := by
  intro j hj
  simp only [List.length_take, List.length_drop] at hj
  rw [show 1 + i + j = 1 + (i + j) by omega, h.cell, dcells_get _ _ _ (by omega), getD_take _ _ _ (by omega)]
  simp [List.getD_eq_getElem?_getD]
set_option maxRecDepth 100000 in
set_option maxHeartbeats 1000000 in
theorem isPI_ok (n : Int) (ms : List Int) (hms : ms.length = 8) (w : World) (h1 : 1 ≤ n) (h4 : n ≤ 4) :
    Calls Try.prog 30 #[.agg (dcells n ms)] w fun e w' => e = .returned (.bool (isP n ms)) ∧ Below w.heap.size w w' := by
  have hl := Lib.hid hms
  have c0 := dcells_zero n ms
  obtain ⟨N, hN⟩ : ∃ N : Nat, (2 * n).toNat = N := ⟨_, rfl⟩
  have hN2 : (N : Int) = 2 * n := by omega
  have hsl := sl8 w.heap.size n h1 h4
  have hwr : IntKind.i64.wrap (2 * n) = 2 * n := IntWalk.i64_in _ (by omega)
  rw [hN] at hsl
  have hO := Own.new w (dcells n ms) 31
  have hB : Below w.heap.size w (w.alloc (.cells (dcells n ms) 31)) := (Below.refl _ _).alloc (Nat.le_refl _) _
  have hpom := Lib.hid (fun w1 (h : Own w1 w.heap.size (dcells n ms) 31) => pomB_any w.heap.size 1 8 N n (ms.take N) w1 (by simp; omega) (by omega) hN2 h.lt (by have := h.rdP 0 N (by omega); simpa using this))
  have htl := Lib.hid (told_len (ms.take N) (by simp; omega))
  have hr : decide (ms = told (ms.take N)) = isP n ms := by unfold isP; rw [hN]; simp [h1, h4, eq_comm]
  obtain ⟨r, hrr⟩ : ∃ r, isP n ms = r := ⟨_, rfl⟩
  rw [hrr] at hr
  have hE := Lib.hid (fun w => (by have := eqParts n n ms (told (ms.take N)) hms htl.out w; rwa [hr] at this : (Op.equalIn 9999 25 (.agg ((dcells n ms).extract 1 9)) (.agg ((dcells n (told (ms.take N))).extract 1 9))).run Try.prog w = .ok r w))
  have c0t := dcells_zero n (told (ms.take N))
  rw [hrr]
  have KO := Lib.hid hO
  have KB := Lib.hid hB
  clear hms hr hN hrr hO hB hN2
  go_enter Try.func30, Try.ntmps30
  go_wp2_with (first
    | (go_at_call 53; ((with_reducible refine (isHt_t _ _ h1 h4).mono ?_); rintro e w0 ⟨rfl, rfl⟩)))
  refine wp_region_on (fun w' => Own w' w.heap.size (dcells n ms) 31 ∧ Below w.heap.size w w') [0, 1, 2, 3, 4, 5] [6] 7 (by kernel_rfl) (by kernel_rfl) ⟨KO.out.drewN 1, Below.drewN KB.out 1⟩ ?_
  simp only [List.map_cons, List.map_nil, opN_zero, opN_succ, List.drop_succ_cons, List.drop_zero]
  (apply wpOn_step; · (intro wd hS K hK; rw [if_pos (by rfl)]; refine still_load_row 31 (.tmp 1) rfl w.heap.size rfl 31 (dcells n ms) _ hS.1 Try.underlying31 rfl (rowP (d9 _ _ hl.out)) ?_; exact hK))
  (apply wpOn_step; · (intro wd hS K hK; clear hS; go_simp; exact hK))
  (apply wpOn_step; · (intro wd hS K hK; clear hS; go_simp; exact hK))
  (apply wpOn_step; · (intro wd hS K hK; have k0 := hS.1.cell 0; rw [c0] at k0; clear hS; go_simp; exact hK))
  (apply wpOn_step; · (intro wd hS K hK; clear hS; go_simp; exact hK))
  (apply wpOn_step; · (intro wd hS K hK; clear hS; go_simp; exact hK))
  refine wpOn_nil ?_
  intro w8 hS8
  obtain ⟨hO8, hB8⟩ := hS8
  refine wpMid_step (fun K hK => ?_)
  go_wp2_with (first
    | (go_at_call 54; ((with_reducible refine (hpom.out w8 hO8).mono ?_); rintro e w9 ⟨rfl, hB9⟩)))
  refine hK _ _ ⟨hO8.below hB9 hO8.lt, hB8.trans (hB9.mono hB8.size)⟩ ?_
  clear hK K
  refine wpMid_nil ?_
  have hE2 := hE.out
  go_wp2
  all_goals
    go_ret
    refine ⟨?_, hB8.trans (hB9.mono hB8.size)⟩
    clear hE hE2 hpom hB9 hB8 hO8
    simp_all
set_option maxRecDepth 100000 in
theorem isPI_bad (n : Int) (ms : List Int) (w : World) (h : n < 1 ∨ 4 < n) :
    Calls Try.prog 30 #[.agg (dcells n ms)] w fun e w' => e = .returned (.bool (isP n ms)) ∧ Below w.heap.size w w' := by
  rw [isP_bad n ms h]
  have c0 := dcells_zero n ms
  have hh := Lib.hid h
  clear h
  go_enter Try.func30, Try.ntmps30
  go_wp2_with (first
    | (go_at_call 53; ((with_reducible refine (isHt_f _ _ hh.out).mono ?_); rintro e w0 ⟨rfl, rfl⟩)))
  go_ret
  exact ⟨rfl, (Below.refl _ _).alloc (Nat.le_refl _) _⟩
theorem isPI_any (n : Int) (ms : List Int) (hms : ms.length = 8) (w : World) :
    Calls Try.prog 30 #[.agg (dcells n ms)] w fun e w' => e = .returned (.bool (isP n ms)) ∧ Below w.heap.size w w' := by
  by_cases h : 1 ≤ n ∧ n ≤ 4
  · exact isPI_ok n ms hms w h.1 h.2
  · exact isPI_bad n ms w (by omega)
end Go.Proofs.Ytlgdeciikliihaa
