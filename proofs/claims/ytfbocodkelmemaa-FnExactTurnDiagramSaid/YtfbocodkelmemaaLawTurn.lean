/- The law of TurnDiagram. -/
import Derived.Test.YtfbocodkelmemaaTurnI
import Derived.Test.YtfbocodkelmemaaTurnS
import Derived.Test.YtfbocodkelmemaaDiaB
import Derived.Test.YtfbocodkelmemaaLawD
namespace Go.Proofs.Ytfbocodkelmemaa
open Go.RowKit
set_option maxRecDepth 100000 in
theorem TurnDiagramS_bad (n : Int) (ms : List Int) (hms : ms.length = 16) (hb : Bytes ms) (hd : isD n ms = false) (w : World) :
    Calls Try.prog 32 #[.agg (dcells n ms)] w fun e w' => e = .returned (.tuple #[.agg zcells, .int .i64 1]) ∧ Below w.heap.size w w' := by
  have hl := Lib.hid hms
  have hc := Lib.hid (fun w => l01Is_dec n ms hms hb w)
  rw [hd] at hc
  clear hms hb hd
  go_enter Try.func32, Try.ntmps32
  go_wp2_with (first
    | (refine wpList_load_row rfl 26 _ rfl _ rfl 26 _ (0, 0) _ ((Own.new _ _ _).alloc _) Try.underlying26 rfl (row26 (d17 _ _ (hl.out))) ?_)
    | (go_at_call 68; ((with_reducible refine (hc.out _).mono ?_); rintro e w1 ⟨rfl, hB1⟩; have hR1 : Own w1 (w.heap.size + 1) zcells 26 := (Own.at _ _ _ (by simp)).below hB1 (by simp); have hBw : Below w.heap.size w w1 := (((Below.refl w.heap.size w).alloc (Nat.le_refl _) _).alloc (by simp) _).trans (hB1.mono (by simp <;> omega)); clear hB1))
    | (refine wpList_build_of rfl 26 #[] rfl zcells ?_ ?_; (exact built26nil))
    | (refine wpList_store_own rfl 26 _ _ rfl _ _ rfl rfl 26 _ (hR1) (row26 (d17 _ _ (zlen))) (rfl) (dcells_one _ _) ?_; intro w4 hO4 hN4))
  refine bodyPost_ret (v := .tuple #[.agg (zcells), .int .i64 1]) (results_row_tmp rfl _ _ _ _ _ (0, 0) _ rfl (hO4) Try.underlying26 rfl (row26 (d17 _ _ (zlen))) _ rfl) rfl (⟨rfl, hBw.trans (hN4.below.mono (by omega))⟩)
set_option maxRecDepth 100000 in
theorem TurnDiagram_walk (n : Int) (ms : List Int) (hms : ms.length = 16) (w : World) (m c : Int) (rs : List Int) (hr : rs.length = 16)
    (hS : ∀ w, Calls Try.prog 32 #[.agg (dcells n ms)] w fun e w' => e = .returned (.tuple #[.agg (dcells m rs), .int .i64 c]) ∧ Below w.heap.size w w')
    (hI : ∀ w, Calls Try.prog 31 #[.agg (dcells n ms)] w fun e w' => e = .returned (.tuple #[.agg (dcells m rs), .int .i64 c]) ∧ Below w.heap.size w w') :
    Calls Try.prog 14 #[.agg (dcells n ms)] w fun e w' => e = .returned (.bool true) ∧ Below w.heap.size w w' := by
  have hl := Lib.hid hms
  have hh := Lib.hid hr
  have hS' := Lib.hid hS
  have hI' := Lib.hid hI
  clear hms hr hS hI
  go_enter Try.func14, Try.ntmps14
  go_wp2_with (first
    | (refine wpList_load_row rfl 50 _ rfl _ rfl 50 _ (0, 0) _ (Own.new w _ _) Try.underlying50 rfl (row50 (d17 _ _ (hl.out))) ?_)
    | (go_at_call 59; ((with_reducible refine (toD_any n ms hl.out w3).mono ?_); rintro e w4 ⟨rfl, hB4⟩))
    | (go_at_call 59; ((with_reducible refine (toD_any n ms hl.out _).mono ?_); rintro e w1 ⟨rfl, hB1⟩))
    | (go_at_call 32; ((with_reducible refine (hS'.out _).mono ?_); rintro e w2 ⟨rfl, hB2⟩; have hA2 : Own w2 w.heap.size (dcells n ms) 50 := ((Own.new w _ _).below hB1 (by simp)).below hB2 (Nat.lt_of_lt_of_le (by simp) hB1.size); have b2 : Below w.heap.size w w2 := (((Below.refl w.heap.size w).alloc (Nat.le_refl _) _).trans (hB1.mono (by simp))).trans (hB2.mono (Nat.le_trans (by simp) hB1.size))))
    | (go_at_call 31; ((with_reducible refine (hI'.out _).mono ?_); rintro e w5 ⟨rfl, hB5⟩; have hO5 : Own w5 w2.heap.size (dcells m rs) 26 := (hO3.below hB4 hO3.lt).below hB5 (Nat.lt_of_lt_of_le hO3.lt hB4.size)))
    | (refine wpList_load_row rfl 50 _ rfl _ rfl 50 _ (0, 0) _ ((hA2.alloc _).only hN3 (Nat.ne_of_lt hA2.lt)) Try.underlying50 rfl (row50 (d17 _ _ (hl.out))) ?_)
    | (refine wpList_load_row rfl 26 _ rfl _ rfl 26 _ (0, 0) _ (hO6) Try.underlying26 rfl (row26 (d17 _ _ (hh.out))) ?_)
    | (refine wpList_load_row rfl 26 _ rfl _ rfl 26 _ (0, 0) _ ((hO5.alloc _).only hN6 (Nat.ne_of_lt hO5.lt)) Try.underlying26 rfl (row26 (d17 _ _ (hh.out))) ?_)
    | (go_at_call 60; refine (eqD_same m rs hh.out _).mono ?_; rintro e w7 ⟨rfl, hB7⟩)
    | (refine wpList_store_own rfl 26 _ _ rfl _ _ rfl rfl 26 _ (Own.new w5 _ _) (row26 (d17 _ _ (hh.out))) (z_eq (d17 _ _ hh.out)) (dcells_one _ _) ?_; intro w6 hO6 hN6)
    | (refine wpList_store_own rfl 26 _ _ rfl _ _ rfl rfl 26 _ (Own.new w2 _ _) (row26 (d17 _ _ (hh.out))) (z_eq (d17 _ _ hh.out)) (dcells_one _ _) ?_; intro w3 hO3 hN3))
  go_ret
  refine ⟨rfl, ?_⟩
  have b3 : Below w.heap.size w w3 := (b2.alloc b2.size _).trans (hN3.below.mono b2.size)
  have b4 := b3.trans (hB4.mono b3.size)
  have b5 := b4.trans (hB5.mono b4.size)
  have b6 : Below w.heap.size w w6 := (b5.alloc b5.size _).trans (hN6.below.mono b5.size)
  exact b6.trans (hB7.mono b6.size)
theorem turn_law (n : Int) (ms : List Int) (hms : ms.length = 16) (hb : Bytes ms) (w : World) :
    Calls Try.prog 14 #[.agg (dcells n ms)] w fun e w' => e = .returned (.bool true) ∧ Below w.heap.size w w' := by
  cases hd : isD n ms with
  | true =>
    have hIs := (isD_iff n ms hms hb).1 hd
    have e := mv_eq_stO hb hIs
    have hI := TurnDiagramI_ok n ms hms hb hd
    rw [e] at hI
    exact TurnDiagram_walk n ms hms w n 0 _ (stO_len _ _ _ _) (TurnDiagramS_ok n ms hms hb hd) hI
  | false => exact TurnDiagram_walk n ms hms w 0 1 zeros zlen (TurnDiagramS_bad n ms hms hb hd) (TurnDiagramI_bad n ms hms hb hd)
end Go.Proofs.Ytfbocodkelmemaa
