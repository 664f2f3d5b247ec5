/- Contracts of the program's turn. -/
import Derived.Test.YtfbocodkelmemaaMoveT
namespace Go.Proofs.Ytfbocodkelmemaa
open Go.RowKit
set_option maxRecDepth 100000 in
set_option maxHeartbeats 1000000 in
theorem TurnDiagramI_ok (n : Int) (ms : List Int) (hms : ms.length = 16) (hb : Bytes ms) (hd : isD n ms = true) (w : World) :
    Calls Try.prog 31 #[.agg (dcells n ms)] w fun e w' => e = .returned (.tuple #[.agg (dcells n (mvL (turnF n) ms zeros (2 * n).toNat)), .int .i64 0]) ∧ Below w.heap.size w w' := by
  have hl := Lib.hid hms
  have hIs := (isD_iff n ms hms hb).1 hd
  obtain ⟨h1, h8⟩ := hIs.1
  have hml := Lib.hid (mvL_len (turnF n) ms zeros zlen (2 * n).toNat)
  have hmv := Lib.hid (fun (b : Nat) (u : World) (hu : Own u b #[.int .i64 n] 2) => moveDT_ok b n ms hms hb hd u hu)
  have c0 := dcells_zero n ms
  have hmf : ∀ (fn : Fn) (first cap : Array Value) (w : World), (Instr.makeFunc fn first cap).run Try.prog w = .ok (.func fn first cap) w := fun _ _ _ _ => rfl
  obtain ⟨R, hR⟩ : ∃ R, mvL (turnF n) ms zeros (2 * n).toNat = R := ⟨_, rfl⟩
  rw [hR] at hmv hml ⊢
  clear hms hb hd hIs hR
  go_enter Try.func31, Try.ntmps31
  go_wp2_with (first
    | (refine wpList_load_row rfl 26 _ rfl _ rfl 26 _ (0, 0) _ (((Own.new _ _ _).alloc _).alloc _) Try.underlying26 rfl (row26 (d17 _ _ (hl.out))) ?_)
    | (go_at_call 69; ((with_reducible refine (hmv.out _ _ (Own.at _ _ _ (by simp))).mono ?_); rintro e w1 ⟨rfl, hB1⟩; have hR1 : Own w1 (w.heap.size + 1) zcells 26 := ((Own.at _ _ _ (by simp)).alloc _).below hB1 (by simp <;> omega); have hBw : Below w.heap.size w w1 := ((((Below.refl w.heap.size w).alloc (Nat.le_refl _) _).alloc (by simp) _).alloc (by simp <;> omega) _).trans (hB1.mono (by simp <;> omega)); clear hB1))
    | (refine wpList_store_own rfl 26 _ _ rfl _ _ rfl rfl 26 _ (hR1) (row26 (d17 _ _ (hml.out))) (z_eq (d17 _ _ hml.out)) (dcells_one _ _) ?_; intro w4 hO4 hN4))
  refine bodyPost_ret (v := .tuple #[.agg (dcells n R), .int .i64 0]) (results_row_tmp rfl _ _ _ _ _ (0, 0) _ rfl (hO4) Try.underlying26 rfl (row26 (d17 _ _ (hml.out))) _ rfl) rfl (⟨rfl, hBw.trans (hN4.below.mono (by omega))⟩)
set_option maxRecDepth 100000 in
set_option maxHeartbeats 1000000 in
theorem TurnDiagramI_bad (n : Int) (ms : List Int) (hms : ms.length = 16) (hb : Bytes ms) (hd : isD n ms = false) (w : World) :
    Calls Try.prog 31 #[.agg (dcells n ms)] w fun e w' => e = .returned (.tuple #[.agg zcells, .int .i64 1]) ∧ Below w.heap.size w w' := by
  have hl := Lib.hid hms
  have hmv := Lib.hid (fun (F : Value) (u : World) => moveD_bad F n ms hms hb hd u)
  have c0 := dcells_zero n ms
  have hmf : ∀ (fn : Fn) (first cap : Array Value) (w : World), (Instr.makeFunc fn first cap).run Try.prog w = .ok (.func fn first cap) w := fun _ _ _ _ => rfl
  clear hms hb hd
  go_enter Try.func31, Try.ntmps31
  go_wp2_with (first
    | (refine wpList_load_row rfl 26 _ rfl _ rfl 26 _ (0, 0) _ (((Own.new _ _ _).alloc _).alloc _) Try.underlying26 rfl (row26 (d17 _ _ (hl.out))) ?_)
    | (go_at_call 69; ((with_reducible refine (hmv.out _ _).mono ?_); rintro e w1 ⟨rfl, hB1⟩; have hR1 : Own w1 (w.heap.size + 1) zcells 26 := ((Own.at _ _ _ (by simp)).alloc _).below hB1 (by simp <;> omega); have hBw : Below w.heap.size w w1 := ((((Below.refl w.heap.size w).alloc (Nat.le_refl _) _).alloc (by simp) _).alloc (by simp <;> omega) _).trans (hB1.mono (by simp <;> omega)); clear hB1))
    | (refine wpList_store_own rfl 26 _ _ rfl _ _ rfl rfl 26 _ (hR1) (row26 (d17 _ _ (zlen))) (rfl) (dcells_one _ _) ?_; intro w4 hO4 hN4))
  refine bodyPost_ret (v := .tuple #[.agg (zcells), .int .i64 1]) (results_row_tmp rfl _ _ _ _ _ (0, 0) _ rfl (hO4) Try.underlying26 rfl (row26 (d17 _ _ (zlen))) _ rfl) rfl (⟨rfl, hBw.trans (hN4.below.mono (by omega))⟩)
end Go.Proofs.Ytfbocodkelmemaa
