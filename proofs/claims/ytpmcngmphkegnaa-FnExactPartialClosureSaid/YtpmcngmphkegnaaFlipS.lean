/- The contract of the model's flip. -/
import Derived.Test.YtpmcngmphkegnaaKb
import Derived.Test.YtpmcngmphkegnaaKa
import Derived.Test.YtpmcngmphkegnaaMvMath
import Derived.RegionTactic
import Derived.ChangeAlike
namespace Go.Proofs.Ytpmcngmphkegnaa
open Go.RowKit
theorem u8_in (b : Int) (h0 : 0 ≤ b) (h : b ≤ 255) : IntKind.u8.wrap b = b := by
  simp [IntKind.wrap, IntKind.signed, IntKind.bits]; omega
set_option maxRecDepth 100000 in
set_option maxHeartbeats 1000000 in
theorem flipS_any (n : Int) (ms : List Int) (hms : ms.length = 16) (hb : Bytes ms) (hd : IsS n ms) (w : World) :
    Calls Try.prog 63 #[.agg (dcells n ms)] w fun e w' => e = .returned (.agg (dcells n (stL (fun i => (i + n) % (2 * n)) ms (2 * n).toNat))) ∧ Below w.heap.size w w' := by
  have hl := Lib.hid hms
  have hbb := Lib.hid hb
  have hmt := Lib.hid (fun (p : Int) (h0 : 0 ≤ p) (h2 : p < 2 * n) => mate_lt hb hd p h0 h2)
  obtain ⟨h1, h8⟩ := hd.1
  have c0 := dcells_zero n ms
  clear hms hb hd
  go_enter Try.func63, Try.ntmps63
  go_wp2
  go_region
  have hOa : Own (((w.alloc (.cells (dcells n ms) 68)).alloc (.cells zcells 68)).alloc (.cells (dcells n zeros) 68)).drew w.heap.size (dcells n ms) 68 := Own.alloc (Own.alloc (Own.new _ _ _) _) _
  have hRa : Own (((w.alloc (.cells (dcells n ms) 68)).alloc (.cells zcells 68)).alloc (.cells (dcells n zeros) 68)).drew (w.heap.size + 1) zcells 68 := Own.alloc (Own.at _ _ _ (by simp)) _
  have hDa : Own (((w.alloc (.cells (dcells n ms) 68)).alloc (.cells zcells 68)).alloc (.cells (dcells n zeros) 68)).drew (w.heap.size + 2) (dcells n zeros) 68 := Own.at _ _ _ (by simp)
  have hBa : Below w.heap.size w (((w.alloc (.cells (dcells n ms) 68)).alloc (.cells zcells 68)).alloc (.cells (dcells n zeros) 68)).drew := ((((Below.refl _ _).alloc (Nat.le_refl _) _).alloc (by simp) _).alloc (by simp; omega) _).drew
  change Exit.then _ _ _ _ (((w.alloc (.cells (dcells n ms) 68)).alloc (.cells zcells 68)).alloc (.cells (dcells n zeros) 68)).drew
  generalize (((w.alloc (.cells (dcells n ms) 68)).alloc (.cells zcells 68)).alloc (.cells (dcells n zeros) 68)).drew = wa at *
  have C0 := Lib.hid c0
  clear c0
  go_wp2
  go_loopw [5] (fun i wr => ∃ k : Nat, k ≤ 2 * n ∧ i = .int .i64 k ∧ Own wr w.heap.size (dcells n ms) 68 ∧ Own wr (w.heap.size + 1) zcells 68 ∧ Own wr (w.heap.size + 2) (dcells n (stL (fun i => (i + n) % (2 * n)) ms k)) 68 ∧ Below w.heap.size w wr) (fun i _ => (2 * n - intOf i).toNat)
  case atStart => exact ⟨0, by omega, rfl, hOa, hRa, hDa, hBa⟩
  case round =>
    clear hOa hRa hDa hBa
    obtain ⟨k, hk, rfl, hO, hR, hD, hB⟩ := hrel
    have hsl := Lib.hid (stL_len (fun i => (i + n) % (2 * n)) ms k)
    by_cases hlt : (k : Int) < 2 * n
    · have mm := hmt.out k (by omega) hlt
      obtain ⟨m, hm⟩ : ∃ m, mate ms k = m := ⟨_, rfl⟩
      have c1 : (dcells n ms)[1 + k]? = some (.int .u8 m) := by rw [dcells_get _ _ _ (by rw [hl.out]; omega), ← hm, mate_nat]
      rw [hm] at mm
      obtain ⟨mm0, mm2⟩ := mm
      have C1 := Lib.hid c1
      obtain ⟨a, ha⟩ : ∃ a, ((k : Int) + n) % (2 * n) = a := ⟨_, rfl⟩
      obtain ⟨b, hb⟩ : ∃ b, (m + n) % (2 * n) = b := ⟨_, rfl⟩
      have a0 := Int.emod_nonneg ((k : Int) + n) (show 2 * n ≠ 0 by omega)
      have a2 := Int.emod_lt_of_pos ((k : Int) + n) (show 0 < 2 * n by omega)
      have b0 := Int.emod_nonneg (m + n) (show 2 * n ≠ 0 by omega)
      have b2 := Int.emod_lt_of_pos (m + n) (show 0 < 2 * n by omega)
      rw [ha] at a0 a2
      rw [hb] at b0 b2
      have hst := Lib.hid (show stL (fun i => (i + n) % (2 * n)) ms (k + 1) = (stL (fun i => (i + n) % (2 * n)) ms k).set a.toNat b by rw [stL, hm]; show (stL (fun i => (i + n) % (2 * n)) ms k).set (((k : Int) + n) % (2 * n)).toNat ((m + n) % (2 * n)) = _; rw [ha, hb])
      have HA := Lib.hid ha
      have HB := Lib.hid hb
      clear hm c1 ha hb
      go_wp2
      refine wp_region_still_tail 19 (by kernel_rfl) (by kernel_rfl) ?_
      have hO' : Own { wr with drawn := wr.drawn + 1 } w.heap.size (dcells n ms) 68 := hO
      have hR' : Own { wr with drawn := wr.drawn + 1 } (w.heap.size + 1) zcells 68 := hR
      have hD' : Own { wr with drawn := wr.drawn + 1 } (w.heap.size + 2) (dcells n (stL (fun i => (i + n) % (2 * n)) ms k)) 68 := hD
      have hB' : Below w.heap.size w { wr with drawn := wr.drawn + 1 } := hB.drew
      clear hO hR hD hB
      generalize ({ wr with drawn := wr.drawn + 1 } : World) = wd at *
      have k1 := hO'.cell (1 + k)
      rw [C1.out] at k1
      have k2 := hD'.cell (1 + a.toNat)
      rw [dcells_get _ _ _ (by rw [hsl.out]; omega)] at k2
      have f2 := hD'.free (1 + a.toNat)
      have hD2 := hD'.set (1 + a.toNat) (.int .u8 b)
      rw [dcells_set, ← hst.out] at hD2
      have hO2 := hO'.other (a := ⟨w.heap.size + 2, 1 + a.toNat, none⟩) (by simp) (.int .u8 b)
      have hR2 := hR'.other (a := ⟨w.heap.size + 2, 1 + a.toNat, none⟩) (by simp) (.int .u8 b)
      have hB2 := hB'.setCell (p := ⟨w.heap.size + 2, 1 + a.toNat, none⟩) (by simp) (.int .u8 b)
      have K1 := Lib.hid hD2
      have K2 := Lib.hid hO2
      have K3 := Lib.hid hR2
      have K4 := Lib.hid hB2
      clear hD2 hO2 hR2 hB2 hD' hO' hR' hB'
      have hk16 : (k : Int) < 16 := by omega
      have ha16 : a < 16 := by omega
      have n2 : (2 * n) ≠ 0 := by omega
      have w1 : IntKind.i64.wrap ((k : Int) + n) = k + n := IntWalk.i64_in _ (by omega)
      have w2 : IntKind.i64.wrap (2 * n) = 2 * n := IntWalk.i64_in _ (by omega)
      have w3 : IntKind.i64.wrap m = m := IntWalk.i64_in _ (by omega)
      have w4 : IntKind.i64.wrap (m + n) = m + n := IntWalk.i64_in _ (by omega)
      have t1 : ((k : Int) + n).tmod (2 * n) = a := by rw [Int.tmod_eq_emod_of_nonneg (by omega)]; exact HA.out
      have t2 : (m + n).tmod (2 * n) = b := by rw [Int.tmod_eq_emod_of_nonneg (by omega)]; exact HB.out
      have w5 : IntKind.u8.wrap b = b := u8_in b (by omega) (by omega)
      simp only [List.take_succ_cons, List.take_zero, List.drop_succ_cons, List.drop_zero]
      still_step
      still_step
      still_step
      still_step
      still_step
      still_step
      still_step
      still_step
      still_step
      still_step
      still_step
      still_step
      still_step
      still_step
      still_step
      still_step
      still_step
      still_step
      still_step
      refine wpStill_nil ?_
      clear t1 t2 w1 w2 w3 w4 w5
      go_wp2
      go_roundw
      case rel => exact ⟨k + 1, by omega, by go_num, K2.out, K3.out, K1.out, K4.out⟩
      case measure => simp [intOf]; omega
    · have e := Lib.hid (show (2 * n).toNat = k by omega)
      go_wp2_with (first
        | (refine wpList_load_row rfl 68 _ rfl _ rfl 68 _ (0, 0) _ (hD) Try.underlying68 rfl (row26 (d17 _ _ (hsl.out))) ?_)
        | (refine wpList_store_own rfl 68 _ _ rfl _ _ rfl rfl 68 _ (hR) (row26 (d17 _ _ (hsl.out))) (z_eq (d17 _ _ hsl.out)) (dcells_one _ _) ?_; intro w4 hO4 hN4))
      refine bodyPost_ret (v := .agg (dcells n (stL (fun i => (i + n) % (2 * n)) ms k))) (results_cell_row rfl _ _ _ _ _ (0, 0) _ rfl (hO4) Try.underlying68 rfl (row26 (d17 _ _ (hsl.out)))) rfl (⟨by rw [e.out], hB.trans (hN4.below.mono (by omega))⟩)
end Go.Proofs.Ytpmcngmphkegnaa
