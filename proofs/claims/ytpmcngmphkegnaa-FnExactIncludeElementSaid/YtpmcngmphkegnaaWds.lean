/- The model's l02Wider. (Written by genwds.py.) -/
import Derived.Test.YtpmcngmphkegnaaWdm
namespace Go.Proofs.Ytpmcngmphkegnaa
open Go.RowKit Go.Lib
set_option linter.unusedVariables false
set_option linter.unusedSimpArgs false
set_option maxRecDepth 100000 in
set_option maxHeartbeats 8000000 in
theorem wdS_call {n : Int} {ms : List Int} (h7 : n ≤ 7) (h : VD (n, ms)) (w : World) :
    Calls Try.prog 74 #[.agg (dcells n ms)] w fun e w' => e = .returned (.agg (dcells (n + 1) (wdL n ms))) ∧ Below w.heap.size w w' := by
  have hd := (isD_iff n ms h.2.1 h.2.2).1 h.1
  have hl := Lib.hid (show ms.length = 16 from h.2.1)
  have hmt := Lib.hid (fun (p : Int) (h0 : 0 ≤ p) (h2 : p < 2 * n) => mate_lt h.2.2 hd p h0 h2)
  obtain ⟨h1, h8⟩ := hd.1
  have c0 := dcells_zero n ms
  clear hd h
  have wn1 : IntKind.i64.wrap (n + 1) = n + 1 := IntWalk.i64_in _ (by omega)
  go_enter Try.func74, Try.ntmps74
  go_wp2
  go_region
  have hOa : Own (((w.alloc (.cells (dcells n ms) 68)).alloc (.cells zcells 68)).alloc (.cells (dcells (n + 1) zeros) 68)).drew w.heap.size (dcells n ms) 68 := Own.alloc (Own.alloc (Own.new _ _ _) _) _
  have hRa : Own (((w.alloc (.cells (dcells n ms) 68)).alloc (.cells zcells 68)).alloc (.cells (dcells (n + 1) zeros) 68)).drew (w.heap.size + 1) zcells 68 := Own.alloc (Own.at _ _ _ (by simp)) _
  have hDa : Own (((w.alloc (.cells (dcells n ms) 68)).alloc (.cells zcells 68)).alloc (.cells (dcells (n + 1) zeros) 68)).drew (w.heap.size + 2) (dcells (n + 1) zeros) 68 := Own.at _ _ _ (by simp)
  have hBa : Below w.heap.size w (((w.alloc (.cells (dcells n ms) 68)).alloc (.cells zcells 68)).alloc (.cells (dcells (n + 1) zeros) 68)).drew := ((((Below.refl _ _).alloc (Nat.le_refl _) _).alloc (by simp) _).alloc (by simp; omega) _).drew
  change Exit.then _ _ _ _ (((w.alloc (.cells (dcells n ms) 68)).alloc (.cells zcells 68)).alloc (.cells (dcells (n + 1) zeros) 68)).drew
  generalize (((w.alloc (.cells (dcells n ms) 68)).alloc (.cells zcells 68)).alloc (.cells (dcells (n + 1) zeros) 68)).drew = wa at *
  clear c0
  go_wp2
  go_loopw [5] (fun i wr => ∃ k : Nat, k ≤ 2 * n ∧ i = .int .i64 k ∧ Own wr w.heap.size (dcells n ms) 68 ∧ Own wr (w.heap.size + 1) zcells 68 ∧ Own wr (w.heap.size + 2) (dcells (n + 1) (stL (un1 n 1) ms k)) 68 ∧ Below w.heap.size w wr) (fun i _ => (2 * n - intOf i).toNat)
  case atStart => exact ⟨0, by omega, rfl, hOa, hRa, hDa, hBa⟩
  case round =>
    clear hOa hRa hDa hBa
    obtain ⟨k, hk, rfl, hO, hR, hD, hB⟩ := hrel
    have hsl := Lib.hid (stL_len (un1 n 1) ms k)
    by_cases hlt : (k : Int) < 2 * n
    · have mm := hmt.out k (by omega) hlt
      obtain ⟨m, hm0⟩ : ∃ m, mate ms k = m := ⟨_, rfl⟩
      have c1 : (dcells n ms)[1 + k]? = some (.int .u8 m) := by rw [dcells_get _ _ _ (by rw [hl.out]; omega), ← hm0, mate_nat]
      rw [hm0] at mm
      obtain ⟨mm0, mm2⟩ := mm
      have hm := Lib.hid hm0
      obtain ⟨ki, hki0⟩ : ∃ x : Int, (k : Int) = x := ⟨_, rfl⟩
      have hkk : k = ki.toNat := by omega
      have hki := Lib.hid hki0
      rw [hki0] at hlt
      rw [hki0]
      have hk0 : 0 ≤ ki := by omega
      rw [hkk] at c1
      have C1 := Lib.hid c1
      clear hm0 c1 hkk hki0
      go_upto_region 5 with fail
      refine wp_region_still_tail 7 (by kernel_rfl) (by kernel_rfl) ?_
      have hO' : Own { wr with drawn := wr.drawn + 1 } w.heap.size (dcells n ms) 68 := hO
      have hR' : Own { wr with drawn := wr.drawn + 1 } (w.heap.size + 1) zcells 68 := hR
      have hD' : Own { wr with drawn := wr.drawn + 1 } (w.heap.size + 2) (dcells (n + 1) (stL (un1 n 1) ms k)) 68 := hD
      have hB' : Below w.heap.size w { wr with drawn := wr.drawn + 1 } := hB.drew
      clear hO hR hD hB
      generalize ({ wr with drawn := wr.drawn + 1 } : World) = wd at *
      have k1 := hO'.cell (1 + ki.toNat)
      rw [C1.out] at k1
      have hk16 : ki < 16 := by omega
      have w3 : IntKind.i64.wrap m = m := IntWalk.i64_in _ (by omega)
      simp only [List.take_succ_cons, List.take_zero, List.drop_succ_cons, List.drop_zero]
      still_step
      still_step
      still_step
      still_step
      still_step
      still_step
      still_step
      refine wpStill_nil ?_
      rcases (show (ki < n ∧ m < n) ∨ (ki < n ∧ ¬ m < n) ∨ (¬ ki < n ∧ m < n) ∨ (¬ ki < n ∧ ¬ m < n) by omega) with ⟨q1, q2⟩ | ⟨q1, q2⟩ | ⟨q1, q2⟩ | ⟨q1, q2⟩
      · have g1 : ¬ n ≤ ki := by omega
        have g2 : ¬ n ≤ m := by omega
        have hst := Lib.hid (show stL (un1 n 1) ms (k + 1) = (stL (un1 n 1) ms k).set (ki).toNat (m) by rw [stL, hm.out, hki.out]; unfold un1; rw [if_pos (by omega), if_pos (by omega)])
        have k2 := hD'.cell (1 + (ki).toNat)
        rw [dcells_get _ _ _ (by rw [hsl.out]; omega)] at k2
        have f2 := hD'.free (1 + (ki).toNat)
        have hD2 := hD'.set (1 + (ki).toNat) (.int .u8 (m))
        rw [dcells_set, ← hst.out] at hD2
        have hO2 := hO'.other (a := ⟨w.heap.size + 2, 1 + (ki).toNat, none⟩) (by simp) (.int .u8 (m))
        have hR2 := hR'.other (a := ⟨w.heap.size + 2, 1 + (ki).toNat, none⟩) (by simp) (.int .u8 (m))
        have hB2 := hB'.setCell (p := ⟨w.heap.size + 2, 1 + (ki).toNat, none⟩) (by simp) (.int .u8 (m))
        have K1 := Lib.hid hD2
        have K2 := Lib.hid hO2
        have K3 := Lib.hid hR2
        have K4 := Lib.hid hB2
        clear hD2 hO2 hR2 hB2 hD' hO' hR' hB'
        have wu : IntKind.u8.wrap (m) = m := u8_in _ (by omega) (by omega)
        have wi : wrap64 (ki + 1) = ki + 1 := IntWalk.wrap64_in _ (by omega)
        have wm : wrap64 (m + 1) = m + 1 := IntWalk.wrap64_in _ (by omega)
        have ha0 : 0 ≤ ki := by omega
        have ha1 : ki < 16 := by omega
        go_wp2
        go_roundw
        case rel => exact ⟨k + 1, by have := hki.out; omega, by rw [← hki.out]; go_num, K2.out, K3.out, K1.out, K4.out⟩
        case measure => simp [intOf]; omega
      · have g1 : ¬ n ≤ ki := by omega
        have g2 : n ≤ m := by omega
        have hst := Lib.hid (show stL (un1 n 1) ms (k + 1) = (stL (un1 n 1) ms k).set (ki).toNat (m + 1) by rw [stL, hm.out, hki.out]; unfold un1; rw [if_pos (by omega), if_neg (by omega)])
        have k2 := hD'.cell (1 + (ki).toNat)
        rw [dcells_get _ _ _ (by rw [hsl.out]; omega)] at k2
        have f2 := hD'.free (1 + (ki).toNat)
        have hD2 := hD'.set (1 + (ki).toNat) (.int .u8 (m + 1))
        rw [dcells_set, ← hst.out] at hD2
        have hO2 := hO'.other (a := ⟨w.heap.size + 2, 1 + (ki).toNat, none⟩) (by simp) (.int .u8 (m + 1))
        have hR2 := hR'.other (a := ⟨w.heap.size + 2, 1 + (ki).toNat, none⟩) (by simp) (.int .u8 (m + 1))
        have hB2 := hB'.setCell (p := ⟨w.heap.size + 2, 1 + (ki).toNat, none⟩) (by simp) (.int .u8 (m + 1))
        have K1 := Lib.hid hD2
        have K2 := Lib.hid hO2
        have K3 := Lib.hid hR2
        have K4 := Lib.hid hB2
        clear hD2 hO2 hR2 hB2 hD' hO' hR' hB'
        have wu : IntKind.u8.wrap (m + 1) = m + 1 := u8_in _ (by omega) (by omega)
        have wi : wrap64 (ki + 1) = ki + 1 := IntWalk.wrap64_in _ (by omega)
        have wm : wrap64 (m + 1) = m + 1 := IntWalk.wrap64_in _ (by omega)
        have ha0 : 0 ≤ ki := by omega
        have ha1 : ki < 16 := by omega
        go_wp2
        go_roundw
        case rel => exact ⟨k + 1, by have := hki.out; omega, by rw [← hki.out]; go_num, K2.out, K3.out, K1.out, K4.out⟩
        case measure => simp [intOf]; omega
      · have g1 : n ≤ ki := by omega
        have g2 : ¬ n ≤ m := by omega
        have hst := Lib.hid (show stL (un1 n 1) ms (k + 1) = (stL (un1 n 1) ms k).set (ki + 1).toNat (m) by rw [stL, hm.out, hki.out]; unfold un1; rw [if_neg (by omega), if_pos (by omega)])
        have k2 := hD'.cell (1 + (ki + 1).toNat)
        rw [dcells_get _ _ _ (by rw [hsl.out]; omega)] at k2
        have f2 := hD'.free (1 + (ki + 1).toNat)
        have hD2 := hD'.set (1 + (ki + 1).toNat) (.int .u8 (m))
        rw [dcells_set, ← hst.out] at hD2
        have hO2 := hO'.other (a := ⟨w.heap.size + 2, 1 + (ki + 1).toNat, none⟩) (by simp) (.int .u8 (m))
        have hR2 := hR'.other (a := ⟨w.heap.size + 2, 1 + (ki + 1).toNat, none⟩) (by simp) (.int .u8 (m))
        have hB2 := hB'.setCell (p := ⟨w.heap.size + 2, 1 + (ki + 1).toNat, none⟩) (by simp) (.int .u8 (m))
        have K1 := Lib.hid hD2
        have K2 := Lib.hid hO2
        have K3 := Lib.hid hR2
        have K4 := Lib.hid hB2
        clear hD2 hO2 hR2 hB2 hD' hO' hR' hB'
        have wu : IntKind.u8.wrap (m) = m := u8_in _ (by omega) (by omega)
        have wi : wrap64 (ki + 1) = ki + 1 := IntWalk.wrap64_in _ (by omega)
        have wm : wrap64 (m + 1) = m + 1 := IntWalk.wrap64_in _ (by omega)
        have ha0 : 0 ≤ ki + 1 := by omega
        have ha1 : ki + 1 < 16 := by omega
        go_wp2
        go_roundw
        case rel => exact ⟨k + 1, by have := hki.out; omega, by rw [← hki.out]; go_num, K2.out, K3.out, K1.out, K4.out⟩
        case measure => simp [intOf]; omega
      · have g1 : n ≤ ki := by omega
        have g2 : n ≤ m := by omega
        have hst := Lib.hid (show stL (un1 n 1) ms (k + 1) = (stL (un1 n 1) ms k).set (ki + 1).toNat (m + 1) by rw [stL, hm.out, hki.out]; unfold un1; rw [if_neg (by omega), if_neg (by omega)])
        have k2 := hD'.cell (1 + (ki + 1).toNat)
        rw [dcells_get _ _ _ (by rw [hsl.out]; omega)] at k2
        have f2 := hD'.free (1 + (ki + 1).toNat)
        have hD2 := hD'.set (1 + (ki + 1).toNat) (.int .u8 (m + 1))
        rw [dcells_set, ← hst.out] at hD2
        have hO2 := hO'.other (a := ⟨w.heap.size + 2, 1 + (ki + 1).toNat, none⟩) (by simp) (.int .u8 (m + 1))
        have hR2 := hR'.other (a := ⟨w.heap.size + 2, 1 + (ki + 1).toNat, none⟩) (by simp) (.int .u8 (m + 1))
        have hB2 := hB'.setCell (p := ⟨w.heap.size + 2, 1 + (ki + 1).toNat, none⟩) (by simp) (.int .u8 (m + 1))
        have K1 := Lib.hid hD2
        have K2 := Lib.hid hO2
        have K3 := Lib.hid hR2
        have K4 := Lib.hid hB2
        clear hD2 hO2 hR2 hB2 hD' hO' hR' hB'
        have wu : IntKind.u8.wrap (m + 1) = m + 1 := u8_in _ (by omega) (by omega)
        have wi : wrap64 (ki + 1) = ki + 1 := IntWalk.wrap64_in _ (by omega)
        have wm : wrap64 (m + 1) = m + 1 := IntWalk.wrap64_in _ (by omega)
        have ha0 : 0 ≤ ki + 1 := by omega
        have ha1 : ki + 1 < 16 := by omega
        go_wp2
        go_roundw
        case rel => exact ⟨k + 1, by have := hki.out; omega, by rw [← hki.out]; go_num, K2.out, K3.out, K1.out, K4.out⟩
        case measure => simp [intOf]; omega
    · have e := Lib.hid (show (2 * n).toNat = k by omega)
      have hkn : (k : Int) = 2 * n := by omega
      have lk : ¬ (k : Int) < 2 * n := hlt
      have k2 := hD.cell (1 + n.toNat)
      rw [dcells_get _ _ _ (by rw [hsl.out]; omega)] at k2
      have f2 := hD.free (1 + n.toNat)
      have D1 := hD.set (1 + n.toNat) (.int .u8 (2 * n + 1))
      rw [dcells_set] at D1
      have O1 := hO.other (a := ⟨w.heap.size + 2, 1 + n.toNat, none⟩) (by simp) (.int .u8 (2 * n + 1))
      have R1 := hR.other (a := ⟨w.heap.size + 2, 1 + n.toNat, none⟩) (by simp) (.int .u8 (2 * n + 1))
      have B1 := hB.setCell (p := ⟨w.heap.size + 2, 1 + n.toNat, none⟩) (by simp) (.int .u8 (2 * n + 1))
      have k3 := D1.cell (1 + (2 * n + 1).toNat)
      rw [dcells_get _ _ _ (by rw [List.length_set, hsl.out]; omega)] at k3
      have f3 := D1.free (1 + (2 * n + 1).toNat)
      have D2 := D1.set (1 + (2 * n + 1).toNat) (.int .u8 n)
      rw [dcells_set] at D2
      have R2 := R1.other (a := ⟨w.heap.size + 2, 1 + (2 * n + 1).toNat, none⟩) (by simp) (.int .u8 n)
      have B2 := B1.setCell (p := ⟨w.heap.size + 2, 1 + (2 * n + 1).toNat, none⟩) (by simp) (.int .u8 n)
      have hfin := Lib.hid (show ((stL (un1 n 1) ms k).set n.toNat (2 * n + 1)).set (2 * n + 1).toNat n = wdL n ms by unfold wdL; rw [e.out])
      rw [hfin.out] at D2
      have K1 := Lib.hid D2
      have K2 := Lib.hid R2
      have K3 := Lib.hid B2
      have hwl := Lib.hid (wdL_len n ms)
      have wu1 : IntKind.u8.wrap (2 * n + 1) = 2 * n + 1 := u8_in _ (by omega) (by omega)
      have wu2 : IntKind.u8.wrap n = n := u8_in _ (by omega) (by omega)
      clear D1 O1 R1 B1 D2 R2 B2 hD hO hR hB
      go_wp2_with (first
        | (refine wpList_load_row rfl 68 _ rfl _ rfl 68 _ (0, 0) _ K1.out Try.underlying68 rfl (row26 (d17 _ _ hwl.out)) ?_)
        | (refine wpList_store_own rfl 68 _ _ rfl _ _ rfl rfl 68 _ K2.out (row26 (d17 _ _ hwl.out)) (z_eq (d17 _ _ hwl.out)) (dcells_one _ _) ?_; intro w4 hO4 hN4))
      refine bodyPost_ret (v := .agg (dcells (n + 1) (wdL n ms))) (results_cell_row rfl _ _ _ _ _ (0, 0) _ rfl (hO4) Try.underlying68 rfl (row26 (d17 _ _ (hwl.out)))) rfl (⟨rfl, K3.out.trans (hN4.below.mono (by omega))⟩)
end Go.Proofs.Ytpmcngmphkegnaa
