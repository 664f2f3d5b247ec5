/- The program's moving of lines by the turn, whose function draws an order. -/
import Derived.Test.YtfbocodkelmemaaTurnC
import Derived.Deep.RegionWith
namespace Go.Proofs.Ytfbocodkelmemaa
open Go.RowKit
set_option maxRecDepth 100000 in
set_option maxHeartbeats 4000000 in
theorem moveLinesT_any (bc : Nat) (g : Nat) (n : Int) (ms M0 : List Int) (hms : ms.length = 16) (hb : Bytes ms) (hd : IsS n ms) (hM0 : M0.length = 16) (hbg : bc ≠ g)
    (w : World) (hw : Own w bc #[.int .i64 n] 2) (hg : Own w g (mcells M0) 5) :
    Calls Try.prog 91 #[.slice (some ⟨g, 0, none⟩) 16 16, .agg (dcells n ms), .func (.func 81) #[] #[.pointer (some ⟨bc, 0, none⟩)]] w fun e w' => e = .returned (.tuple #[]) ∧ Own w' bc #[.int .i64 n] 2 ∧ Own w' g (mcells (mvL (turnF n) ms M0 (2 * n).toNat)) 5 ∧ Most g w w' := by
  have hl := Lib.hid hms
  have hbb := Lib.hid hb
  have hmt := Lib.hid (mate_lt hb hd)
  have HM := Lib.hid hM0
  obtain ⟨h1, h8⟩ := hd.1
  have c0 := dcells_zero n ms
  have hglt := hg.lt
  clear hms hb hd hM0
  go_enter Try.func91, Try.ntmps91
  go_wp2
  have hOa : Own (w.alloc (.cells (dcells n ms) 26)) w.heap.size (dcells n ms) 26 := Own.new _ _ _
  have hGa : Own (w.alloc (.cells (dcells n ms) 26)) g (mcells M0) 5 := hg.alloc _
  have hSa : Own (w.alloc (.cells (dcells n ms) 26)) bc #[.int .i64 n] 2 := hw.alloc _
  have hBa : Most g w (w.alloc (.cells (dcells n ms) 26)) := most_of_below ((Below.refl _ _).alloc (Nat.le_refl _) _)
  generalize w.alloc (.cells (dcells n ms) 26) = wa at *
  clear c0 hg hw
  go_loopw [10] (fun i wr => ∃ k : Nat, k ≤ 2 * n ∧ i = .int .i64 k ∧ Own wr bc #[.int .i64 n] 2 ∧ Own wr w.heap.size (dcells n ms) 26 ∧ Own wr g (mcells (mvL (turnF n) ms M0 k)) 5 ∧ Most g w wr) (fun i _ => (2 * n - intOf i).toNat)
  case atStart => exact ⟨0, by omega, rfl, hSa, hOa, hGa, hBa⟩
  case round =>
    clear hOa hGa hBa hSa
    obtain ⟨k, hk, rfl, hW, hO, hG, hB⟩ := hrel
    by_cases hlt : (k : Int) < 2 * n
    · have hml := Lib.hid (mvL_len (turnF n) ms M0 HM.out k)
      have mm := hmt.out k (by omega) hlt
      obtain ⟨m, hm⟩ : ∃ m, mate ms k = m := ⟨_, rfl⟩
      have c1 : (dcells n ms)[1 + k]? = some (.int .u8 m) := by rw [dcells_get _ _ _ (by rw [hl.out]; omega), ← hm, mate_nat]
      rw [hm] at mm
      obtain ⟨mm0, mm2⟩ := mm
      have fk := Lib.hid (turnC_bd n k h1 h8 (by omega) hlt)
      have fm := Lib.hid (turnC_bd n m h1 h8 mm0 mm2)
      have hst := Lib.hid (show mvL (turnF n) ms M0 (k + 1) = joinL (mvL (turnF n) ms M0 k) (turnF n k) (turnF n m) by rw [mvL, hm])
      have C1 := Lib.hid c1
      clear hm c1
      go_wp2
      have k1 := hO.cell (1 + k)
      rw [C1.out] at k1
      have hk16 : (k : Int) < 16 := by omega
      have q1 := Lib.hid (fun u (hu : Own u bc #[.int .i64 n] 2) => turnC_any n k bc u h1 h8 (by omega) hlt hu)
      have q2 := Lib.hid (fun u (hu : Own u bc #[.int .i64 n] 2) => turnC_any n m bc u h1 h8 mm0 mm2 hu)
      have q3 := Lib.hid (fun u (hu : Own u g (mcells (mvL (turnF n) ms M0 k)) 5) => join_any g _ hml.out (turnF n k) (turnF n m) u hu fk.out.1 fk.out.2 fm.out.1 fm.out.2)
      have hwr : IntKind.i64.wrap m = m := IntWalk.i64_in _ (by omega)
      go_region_with (first
        | (go_at_call 81; ((with_reducible refine Calls.mono (q1.out _ ?_) ?_); (focus exact hW); rintro e w' ⟨rfl, rfl⟩))
        | (go_at_call 81; ((with_reducible refine Calls.mono (q2.out _ ?_) ?_); (focus exact hW); rintro e w' ⟨rfl, rfl⟩))
        | (go_at_call 72; ((with_reducible refine Calls.mono (q3.out _ ?_) ?_); (focus exact hG); rintro e w2 ⟨rfl, hG2, hN2⟩)))
      all_goals
        have hW2 : Own w2 bc #[.int .i64 n] 2 := Own.only (by exact hW) hN2 hbg
        have hO2 : Own w2 w.heap.size (dcells n ms) 26 := Own.only (by exact hO) hN2 (Nat.ne_of_gt hglt)
        have hB2 : Most g w w2 := Most.trans (by exact ⟨hB.os, hB.tape, hB.output, hB.size, hB.block⟩) hN2.most
        rw [← hst.out] at hG2
        clear hW hO hG hB hN2 hwr k1
        go_wp2
        go_roundw
      all_goals first | exact ⟨k + 1, by omega, by go_num, hW2, hO2, hG2, hB2⟩ | (simp [intOf]; omega)
    · have e := Lib.hid (show (2 * n).toNat = k by omega)
      go_wp2
      go_end0
      exact ⟨rfl, hW, by rw [e.out]; exact hG, hB⟩
set_option maxRecDepth 100000 in
set_option maxHeartbeats 1000000 in
theorem moveDT_ok (bc : Nat) (n : Int) (ms : List Int) (hms : ms.length = 16) (hb : Bytes ms) (hd : isD n ms = true) (w : World) (hw : Own w bc #[.int .i64 n] 2) :
    Calls Try.prog 69 #[.agg (dcells n ms), .func (.func 81) #[] #[.pointer (some ⟨bc, 0, none⟩)]] w fun e w' => e = .returned (.tuple #[.agg (dcells n (mvL (turnF n) ms zeros (2 * n).toNat)), .int .i64 0]) ∧ Below w.heap.size w w' := by
  have hl := Lib.hid hms
  have hIs := (isD_iff n ms hms hb).1 hd
  have hc := Lib.hid (fun w => isI_any n ms hms hb w)
  rw [hd] at hc
  have hml := Lib.hid (mvL_len (turnF n) ms zeros zlen (2 * n).toNat)
  have hlt0 := hw.lt
  have hmv := Lib.hid (fun (g : Nat) (hg : w.heap.size ≤ g) (u : World) (hu : Own u bc #[.int .i64 n] 2) (ho : Own u g (mcells zeros) 5) => moveLinesT_any bc g n ms zeros hms hb hIs zlen (by omega) u hu ho)
  have c0 := dcells_zero n ms
  obtain ⟨R, hR⟩ : ∃ R, mvL (turnF n) ms zeros (2 * n).toNat = R := ⟨_, rfl⟩
  rw [hR] at hmv hml ⊢
  clear hms hb hd hIs hR
  go_enter Try.func69, Try.ntmps69
  go_wp2_with (first
    | (refine wpList_load_row rfl 26 _ rfl _ rfl 26 _ (0, 0) _ ((Own.new _ _ _).alloc _) Try.underlying26 rfl (row26 (d17 _ _ (hl.out))) ?_)
    | (go_at_call 19; ((with_reducible refine (hc.out _).mono ?_); rintro e w1 ⟨rfl, hB1⟩; have hO1 : Own w1 w.heap.size (dcells n ms) 26 := ((Own.new _ _ _).alloc _).below hB1 (by simp <;> omega); have hR1 : Own w1 (w.heap.size + 1) zcells 26 := (Own.at _ _ _ (by simp)).below hB1 (by simp); have hBw : Below w.heap.size w w1 := (((Below.refl w.heap.size w).alloc (Nat.le_refl _) _).alloc (by simp) _).trans (hB1.mono (by simp <;> omega)); clear hB1))
    | (go_at_call 71; ((with_reducible refine (newMates_any _).mono ?_); rintro e w0 ⟨rfl, rfl⟩))
    | (refine wpList_load_row rfl 26 _ rfl _ rfl 26 _ (0, 0) _ (hO1.alloc _) Try.underlying26 rfl (row26 (d17 _ _ (hl.out))) ?_)
    | (go_at_call 91; ((with_reducible refine (hmv.out w1.heap.size hBw.size _ ((hw.below hBw hlt0).alloc _) (Own.new _ _ _)).mono ?_); rintro e w2 ⟨rfl, hS2, hG2, hM2⟩; have hO2 := (hO1.alloc _).most hM2 (Nat.ne_of_lt hO1.lt); have hR2 := (hR1.alloc _).most hM2 (Nat.ne_of_lt hR1.lt); have k0 := (hO2.cell 0).trans c0; have hBw2 : Below w.heap.size w w2 := (hBw.alloc hBw.size _).trans (hM2.below (Nat.le_trans hBw.size (by simp)) hBw.size)))
    | (go_at_call 73; ((with_reducible refine (dom_any _ R hml.out n _ hG2).mono ?_); rintro e w3 ⟨rfl, hB3⟩))
    | (refine wpList_store_own rfl 26 _ _ rfl _ _ rfl rfl 26 _ (hR2.below hB3 hR2.lt) (row26 (d17 _ _ (hml.out))) (z_eq (d17 _ _ hml.out)) (dcells_one _ _) ?_; intro w4 hO4 hN4))
  refine bodyPost_ret (v := .tuple #[.agg (dcells n R), .int .i64 0]) (results_row_tmp rfl _ _ _ _ _ (0, 0) _ rfl (hO4) Try.underlying26 rfl (row26 (d17 _ _ (hml.out))) _ rfl) rfl (⟨rfl, (hBw2.trans (hB3.mono hBw2.size)).trans (hN4.below.mono (by omega))⟩)
end Go.Proofs.Ytfbocodkelmemaa
