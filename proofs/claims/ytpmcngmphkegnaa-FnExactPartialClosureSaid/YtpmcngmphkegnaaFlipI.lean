/- Contracts of the program's flip. -/
import Derived.Test.YtpmcngmphkegnaaMove
namespace Go.Proofs.Ytpmcngmphkegnaa
open Go.RowKit
theorem flipC_enters (args : Array Value) (w : World) : (callFunc 106 args).run Try.prog w = .ok (.enter 106 args) w := by kernel_rfl
theorem flipC_bd (n i : Int) (h1 : 1 ≤ n) (h8 : n ≤ 8) (_ : 0 ≤ i) (_ : i < 2 * n) : 0 ≤ (i + n) % (2 * n) ∧ (i + n) % (2 * n) < 16 := by
  have := Int.emod_nonneg (i + n) (show 2 * n ≠ 0 by omega)
  have := Int.emod_lt_of_pos (i + n) (show 0 < 2 * n by omega)
  omega
set_option maxRecDepth 100000 in
theorem flipC_any (n i : Int) (b : Nat) (w : World) (h1 : 1 ≤ n) (h8 : n ≤ 8) (h0 : 0 ≤ i) (h2 : i < 2 * n) (ho : Own w b #[.int .i64 n] 2) :
    Calls Try.prog 106 (#[.int .i64 i] ++ #[.pointer (some ⟨b, 0, none⟩)]) w fun e w' => e = .returned (.int .i64 ((i + n) % (2 * n))) ∧ w' = w := by
  have k0 : w.cell? ⟨b, 0, none⟩ = some (.int .i64 n) := ho.cell 0
  show Calls Try.prog _ #[.int .i64 i, .pointer (some ⟨b, 0, none⟩)] w _
  go_enter Try.func106, Try.ntmps106
  go_wp2
  go_ret
  exact ⟨rfl, rfl⟩
set_option maxRecDepth 100000 in
set_option maxHeartbeats 1000000 in
theorem FlipDiagramI_ok (n : Int) (ms : List Int) (hms : ms.length = 16) (hb : Bytes ms) (hd : isD n ms = true) (w : World) :
    Calls Try.prog 66 #[.agg (dcells n ms)] w fun e w' => e = .returned (.tuple #[.agg (dcells n (mvL (fun i => (i + n) % (2 * n)) ms zeros (2 * n).toNat)), .int .i64 0]) ∧ Below w.heap.size w w' := by
  have hl := Lib.hid hms
  have hIs := (isD_iff n ms hms hb).1 hd
  obtain ⟨h1, h8⟩ := hIs.1
  have hml := Lib.hid (mvL_len (fun i => (i + n) % (2 * n)) ms zeros zlen (2 * n).toNat)
  have hmv := Lib.hid (fun (b : Nat) (u : World) (hu : Own u b #[.int .i64 n] 2) => moveD_ok 106 #[.pointer (some ⟨b, 0, none⟩)] (fun w => Own w b #[.int .i64 n] 2) (fun i => (i + n) % (2 * n)) n ms hms hb hd u flipC_enters
    (fun g hg w w' hw hm => Own.most hw hm (by have := hu.lt; omega)) (fun w i hw h0 h2 => flipC_any n i b w h1 h8 h0 h2 hw) (fun i h0 h2 => flipC_bd n i h1 h8 h0 h2) hu)
  have c0 := dcells_zero n ms
  have hmf : ∀ (fn : Fn) (first cap : Array Value) (w : World), (Instr.makeFunc fn first cap).run Try.prog w = .ok (.func fn first cap) w := fun _ _ _ _ => rfl
  obtain ⟨R, hR⟩ : ∃ R, mvL (fun i => (i + n) % (2 * n)) ms zeros (2 * n).toNat = R := ⟨_, rfl⟩
  rw [hR] at hmv hml ⊢
  clear hms hb hd hIs hR
  go_enter Try.func66, Try.ntmps66
  go_wp2_with (first
    | (refine wpList_load_row rfl 68 _ rfl _ rfl 68 _ (0, 0) _ (((Own.new _ _ _).alloc _).alloc _) Try.underlying68 rfl (row26 (d17 _ _ (hl.out))) ?_)
    | (go_at_call 105; ((with_reducible refine (hmv.out _ _ (Own.at _ _ _ (by simp))).mono ?_); rintro e w1 ⟨rfl, hB1⟩; have hR1 : Own w1 (w.heap.size + 1) zcells 68 := ((Own.at _ _ _ (by simp)).alloc _).below hB1 (by simp <;> omega); have hBw : Below w.heap.size w w1 := ((((Below.refl w.heap.size w).alloc (Nat.le_refl _) _).alloc (by simp) _).alloc (by simp <;> omega) _).trans (hB1.mono (by simp <;> omega)); clear hB1))
    | (refine wpList_store_own rfl 68 _ _ rfl _ _ rfl rfl 68 _ (hR1) (row26 (d17 _ _ (hml.out))) (z_eq (d17 _ _ hml.out)) (dcells_one _ _) ?_; intro w4 hO4 hN4))
  refine bodyPost_ret (v := .tuple #[.agg (dcells n R), .int .i64 0]) (results_row_tmp rfl _ _ _ _ _ (0, 0) _ rfl (hO4) Try.underlying68 rfl (row26 (d17 _ _ (hml.out))) _ rfl) rfl (⟨rfl, hBw.trans (hN4.below.mono (by omega))⟩)
set_option maxRecDepth 100000 in
set_option maxHeartbeats 1000000 in
theorem FlipDiagramI_bad (n : Int) (ms : List Int) (hms : ms.length = 16) (hb : Bytes ms) (hd : isD n ms = false) (w : World) :
    Calls Try.prog 66 #[.agg (dcells n ms)] w fun e w' => e = .returned (.tuple #[.agg zcells, .int .i64 1]) ∧ Below w.heap.size w w' := by
  have hl := Lib.hid hms
  have hmv := Lib.hid (fun (F : Value) (u : World) => moveD_bad F n ms hms hb hd u)
  have c0 := dcells_zero n ms
  have hmf : ∀ (fn : Fn) (first cap : Array Value) (w : World), (Instr.makeFunc fn first cap).run Try.prog w = .ok (.func fn first cap) w := fun _ _ _ _ => rfl
  clear hms hb hd
  go_enter Try.func66, Try.ntmps66
  go_wp2_with (first
    | (refine wpList_load_row rfl 68 _ rfl _ rfl 68 _ (0, 0) _ (((Own.new _ _ _).alloc _).alloc _) Try.underlying68 rfl (row26 (d17 _ _ (hl.out))) ?_)
    | (go_at_call 105; ((with_reducible refine (hmv.out _ _).mono ?_); rintro e w1 ⟨rfl, hB1⟩; have hR1 : Own w1 (w.heap.size + 1) zcells 68 := ((Own.at _ _ _ (by simp)).alloc _).below hB1 (by simp <;> omega); have hBw : Below w.heap.size w w1 := ((((Below.refl w.heap.size w).alloc (Nat.le_refl _) _).alloc (by simp) _).alloc (by simp <;> omega) _).trans (hB1.mono (by simp <;> omega)); clear hB1))
    | (refine wpList_store_own rfl 68 _ _ rfl _ _ rfl rfl 68 _ (hR1) (row26 (d17 _ _ (zlen))) (rfl) (dcells_one _ _) ?_; intro w4 hO4 hN4))
  refine bodyPost_ret (v := .tuple #[.agg (zcells), .int .i64 1]) (results_row_tmp rfl _ _ _ _ _ (0, 0) _ rfl (hO4) Try.underlying68 rfl (row26 (d17 _ _ (zlen))) _ rfl) rfl (⟨rfl, hBw.trans (hN4.below.mono (by omega))⟩)
end Go.Proofs.Ytpmcngmphkegnaa
