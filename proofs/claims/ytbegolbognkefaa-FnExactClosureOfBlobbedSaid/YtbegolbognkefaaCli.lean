/- The program's closure of a diagram with blobs. -/
import Derived.Test.YtbegolbognkefaaClm
import Derived.Test.YtbegolbognkefaaMark
import Derived.Deep.LoopGhost
namespace Go.Proofs.Ytbegolbognkefaa
open Go.RowKit Go.Lib
set_option linter.unusedVariables false
set_option linter.unusedSimpArgs false
theorem make2 : ∀ w : World, (Instr.makeSlice 25 (.int .i64 2) (.int .i64 2)).run Try.prog w = .ok (.slice (some ⟨w.heap.size, 0, none⟩) 2 2) (w.alloc (.cells (icells [0, 0]) 2)) := by
  intro w; kernel_rfl
set_option maxRecDepth 100000 in
set_option maxHeartbeats 8000000 in
theorem clbI_any (n : Int) (ms : List Int) (bs : List Bool) (hms : ms.length = 16) (hbs : bs.length = 16) (hb : Bytes ms) (hn : Net n ms) (w : World) :
    Calls Try.prog 57 #[.agg (bcl n ms bs)] w fun e w' => e = .returned (.slice (some ⟨w.heap.size + 1, 0, none⟩) 2 2) ∧ Own w' (w.heap.size + 1) (icells [(clQ n ms bs (2 * n).toNat).2.1, (clQ n ms bs (2 * n).toNat).2.2]) 2 ∧ Below w.heap.size w w' := by
  obtain ⟨h1, h8⟩ := hn.bd
  have hl := Lib.hid hms
  have hk := Lib.hid hbs
  have hbb := Lib.hid hb
  have hnm := Lib.hid (fun (i : Int) h0 h2 => net_mate hn i h0 h2)
  have hkd := Lib.hid (fun p p0 p16 wd => kind_any n ms bs hms hbs p p0 p16 _ rfl wd)
  have hcc := Lib.hid (bcl_zero n ms bs)
  have hmk := make2
  clear hms hbs hb hn
  go_enter Try.func57, Try.ntmps57
  go_upto_region 1 with fail
  refine gen_world (fun x => Own x w.heap.size (bcl n ms bs) 38 ∧ Below w.heap.size w x ∧ x.heap.size = w.heap.size + 1) ⟨Own.new _ _ _, (Below.refl _ _).alloc (Nat.le_refl _) _, by simp⟩ ?_
  rintro w1 ⟨hO1, hB1, s1⟩
  have c0 := hO1.cell 0
  rw [hcc.out] at c0
  go_upto_region 4 with fail
  refine gen_world (fun x => Own x w.heap.size (bcl n ms bs) 38 ∧ Own x (w.heap.size + 1) (icells [(clQ n ms bs 0).2.1, (clQ n ms bs 0).2.2]) 2 ∧ Own x (w.heap.size + 2) (bools (clQ n ms bs 0).1) 33 ∧ Below w.heap.size w x) ⟨(hO1.alloc _).alloc _, by have := (Own.new w1 (icells [0, 0]) 2).alloc (.cells (bools zbs) 33); rw [s1] at this; exact this, by have := Own.at (w1.alloc (.cells (icells [0, 0]) 2)) (bools zbs) 33 (b := w.heap.size + 2) (by simp; omega); exact this, (hB1.alloc hB1.size _).alloc (by simp; omega) _⟩ ?_
  rintro w2 ⟨nO, nL, nM, nB⟩
  clear hO1 hB1 s1 c0 hmk
  go_wp2
  go_loopw [16] (fun i wr => ∃ k : Nat, k ≤ 2 * n ∧ i = .int .i64 k ∧ Own wr w.heap.size (bcl n ms bs) 38 ∧ Own wr (w.heap.size + 1) (icells [(clQ n ms bs k).2.1, (clQ n ms bs k).2.2]) 2 ∧ Own wr (w.heap.size + 2) (bools (clQ n ms bs k).1) 33 ∧ Below w.heap.size w wr) (fun i _ => (2 * n - intOf i).toNat)
  case atStart => exact ⟨0, by omega, rfl, nO, nL, nM, nB⟩
  case round =>
    clear nO nL nM nB
    obtain ⟨k, hk2, rfl, hO, hL, hM, hB⟩ := hrel
    have hkl := clQ_len n ms bs k
    obtain ⟨x1, x2, x3, x4⟩ := clQ_bd n ms bs k
    by_cases hlt : (k : Int) < 2 * n
    · have hlt16 : (k : Int) < 16 := by omega
      have k1 := hM.cell k
      rw [bools_get _ _ (by rw [hkl]; omega), getD_tf _ _ (by rw [hkl]; omega)] at k1
      obtain ⟨b, hbq⟩ : ∃ b, (clQ n ms bs k).1.getD k true = b := ⟨_, rfl⟩
      rw [hbq] at k1
      cases b with
      | true =>
        have e1 := Lib.hid (show clQ n ms bs (k + 1) = clQ n ms bs k by rw [clQ, if_pos hbq])
        clear hbq
        go_wp2
        go_roundw
        case rel => exact ⟨k + 1, by omega, by go_num, hO, by rw [e1.out]; exact hL, by rw [e1.out]; exact hM, hB⟩
        case measure => simp [intOf]; omega
      | false =>
        obtain ⟨mb0, hmb0⟩ : ∃ mb0, (clQ n ms bs k).1 = mb0 := ⟨_, rfl⟩
        obtain ⟨ca, hca⟩ : ∃ c, (clQ n ms bs k).2.1 = c := ⟨_, rfl⟩
        obtain ⟨cb, hcb⟩ : ∃ c, (clQ n ms bs k).2.2 = c := ⟨_, rfl⟩
        have e1 := Lib.hid (show ∀ r, clX n ms bs 16 k mb0 false = r → clQ n ms bs (k + 1) = (r.1, ca + (if r.2 then 0 else 1), cb + (if r.2 then 1 else 0)) from fun r hr => by rw [clQ, if_neg (by rw [hbq]; simp), hmb0, hca, hcb, hr])
        rw [hmb0] at hM hkl hbq
        rw [hca, hcb] at hL
        rw [hca] at x1 x2
        rw [hcb] at x3 x4
        clear hmb0 hca hcb hbq
        go_wp2_with (first
          | (refine wpList_build_of rfl 91 #[] rfl #[] ?_ ?_; (exact builtK0)))
        obtain ⟨wo, rfl⟩ : ∃ wo : World, wo = wr := ⟨_, rfl⟩
        have h16 : mb0.count false ≤ 16 := by rw [← hkl]; exact List.count_le_length
        simp only [show Value.iface 91 (.agg #[]) = lk false from rfl]
        go_loopg [7, 8] 16 (fun f kv p wx => ∃ (q : Int) (mb : List Bool) (acc : Bool), 0 ≤ q ∧ q < 2 * n ∧ p = .int .i64 q ∧ kv = lk acc ∧ Hid (mb.length = 16) ∧ mb.count false ≤ f ∧ Hid (clX n ms bs f q mb acc = clX n ms bs 16 k mb0 false) ∧ Own wx w.heap.size (bcl n ms bs) 38 ∧ Own wx (w.heap.size + 1) (icells [ca, cb]) 2 ∧ Own wx (w.heap.size + 2) (bools mb) 33 ∧ Below w.heap.size w wx)
        case atStart => exact ⟨k, mb0, false, by omega, hlt, rfl, rfl, Lib.hid hkl, h16, Lib.hid rfl, hO, hL, hM, hB⟩
        case round =>
          clear hO hM hB hL k1 hkl h16
          obtain ⟨q, mb, acc, hq0, hq2, rfl, rfl, hml, hcnt, hW, hO, hL, hM, hB⟩ := hrel
          have j1 := hM.cell q.toNat
          rw [bools_get _ _ (by rw [hml.out]; omega), getD_tf _ _ (by rw [hml.out]; omega)] at j1
          obtain ⟨b, hbq⟩ : ∃ b, mb.getD q.toNat true = b := ⟨_, rfl⟩
          rw [hbq] at j1
          have q16 : q < 16 := by omega
          cases b with
          | true =>
            have e2 : clX n ms bs 16 k mb0 false = (mb, acc) := by rw [← hW.out, clX_met _ _ _ _ _ _ _ hbq]
            have e3 := Lib.hid (e1.out _ e2)
            clear hbq hW e2 e1
            have hsz := hB.size
            have lO := hO.lt
            have lL := hL.lt
            have lM := hM.lt
            cases acc with
            | true =>
              have mk := mL1
              simp only [show lk true = Value.iface 89 (.agg #[]) from rfl]
              go_wp2_with (first
                | (go_at_call 106; ((with_reducible refine (loop1_any _).mono ?_); rintro e w5 ⟨rfl, hB5⟩; have hL5 := hL.below hB5 lL; have g1 : w5.cell? ⟨w.heap.size + 1, 1, none⟩ = some (.int .i64 cb) := hL5.cell 1; have g2 := hL5.free 1)))
              have hL6 : Own (w5.setCell ⟨w.heap.size + 1, 1, none⟩ (.int .i64 (cb + 1))) (w.heap.size + 1) (icells [ca, cb + 1]) 2 := hL5.set 1 _
              have hO6 := (hO.below hB5 lO).other (a := ⟨w.heap.size + 1, 1, none⟩) (by simp) (.int .i64 (cb + 1))
              have hM6 := (hM.below hB5 lM).other (a := ⟨w.heap.size + 1, 1, none⟩) (by simp) (.int .i64 (cb + 1))
              have hB6 := (hB.trans (hB5.mono hsz)).setCell (p := ⟨w.heap.size + 1, 1, none⟩) (by simp) (.int .i64 (cb + 1))
              go_roundw
              case rel => exact ⟨k + 1, by omega, by go_num, hO6, by rw [e3.out]; simpa using hL6, by rw [e3.out]; exact hM6, hB6⟩
              case measure => simp [intOf]; omega
            | false =>
              have mk := mL0
              simp only [show lk false = Value.iface 91 (.agg #[]) from rfl]
              go_wp2_with (first
                | (go_at_call 109; ((with_reducible refine (loop0_any _).mono ?_); rintro e w5 ⟨rfl, hB5⟩; have hL5 := hL.below hB5 lL; have g1 : w5.cell? ⟨w.heap.size + 1, 0, none⟩ = some (.int .i64 ca) := hL5.cell 0; have g2 := hL5.free 0)))
              have hL6 : Own (w5.setCell ⟨w.heap.size + 1, 0, none⟩ (.int .i64 (ca + 1))) (w.heap.size + 1) (icells [ca + 1, cb]) 2 := hL5.set 0 _
              have hO6 := (hO.below hB5 lO).other (a := ⟨w.heap.size + 1, 0, none⟩) (by simp) (.int .i64 (ca + 1))
              have hM6 := (hM.below hB5 lM).other (a := ⟨w.heap.size + 1, 0, none⟩) (by simp) (.int .i64 (ca + 1))
              have hB6 := (hB.trans (hB5.mono hsz)).setCell (p := ⟨w.heap.size + 1, 0, none⟩) (by simp) (.int .i64 (ca + 1))
              go_roundw
              case rel => exact ⟨k + 1, by omega, by go_num, hO6, by rw [e3.out]; simpa using hL6, by rw [e3.out]; exact hM6, hB6⟩
              case measure => simp [intOf]; omega
          | false =>
            obtain ⟨f', hf⟩ : ∃ f', gk = f' + 1 := ⟨gk - 1, by have := cnt_lt mb q.toNat hbq; omega⟩
            subst hf
            have hst := clX_step n ms bs f' q mb acc hbq
            obtain ⟨m, hm⟩ : ∃ m, mate ms q = m := ⟨_, rfl⟩
            obtain ⟨v, hv⟩ : ∃ v, bs.getD q.toNat false = v := ⟨_, rfl⟩
            have hmb := hnm.out q hq0 hq2
            rw [hm] at hst hmb
            rw [hv] at hst
            obtain ⟨m0, m2, _⟩ := hmb
            have m16 : m < 16 := by omega
            have hkd' := Lib.hid (fun wd => hkd.out q hq0 q16 wd)
            rw [hv] at hkd'
            have c1 : wr.cell? ⟨w.heap.size, 1 + q.toNat, none⟩ = some (.int .u8 m) := by rw [hO.cell, bcl_mate _ _ _ _ (by rw [hl.out]; omega)]; unfold mate at hm; rw [hm]
            have c2 : wr.cell? ⟨w.heap.size + 2, m.toNat, none⟩ = some (.bool (mb.getD m.toNat false)) := by rw [hM.cell, bools_get _ _ (by rw [hml.out]; omega)]
            have c3 : (wr.setCell ⟨w.heap.size + 2, q.toNat, none⟩ (.bool true)).cell? ⟨w.heap.size + 2, m.toNat, none⟩ = some (.bool ((mb.set q.toNat true).getD m.toNat false)) := by
              rw [(hM.set _ _).cell, bools_set, bools_get _ _ (by rw [List.length_set, hml.out]; omega)]
            have f1 := hM.free q.toNat
            have f2 := hM.free m.toNat
            have hM2 := (hM.set q.toNat (.bool true)).set m.toNat (.bool true)
            rw [bools_set, bools_set] at hM2
            have hO2 := (hO.other (a := ⟨w.heap.size + 2, q.toNat, none⟩) (by simp) (.bool true)).other (a := ⟨w.heap.size + 2, m.toNat, none⟩) (by simp) (.bool true)
            have hL2 := (hL.other (a := ⟨w.heap.size + 2, q.toNat, none⟩) (by simp) (.bool true)).other (a := ⟨w.heap.size + 2, m.toNat, none⟩) (by simp) (.bool true)
            have hB2 := (hB.setCell (p := ⟨w.heap.size + 2, q.toNat, none⟩) (by simp) (.bool true)).setCell (p := ⟨w.heap.size + 2, m.toNat, none⟩) (by simp) (.bool true)
            have hcnt2 : ((mb.set q.toNat true).set m.toNat true).count false ≤ f' := by
              have x1 := cnt_lt mb q.toNat hbq
              have x2 := cnt_le (mb.set q.toNat true) m.toNat
              omega
            have hW2 := Lib.hid (hst.symm.trans hW.out)
            have hLn2 := Lib.hid (show ((mb.set q.toNat true).set m.toNat true).length = 16 by rw [List.length_set, List.length_set]; exact hml.out)
            obtain ⟨y, hy⟩ : ∃ y, (m + n) % (2 * n) = y := ⟨_, rfl⟩
            rw [hy] at hW2
            have r0 : 0 ≤ y := by rw [← hy]; exact Int.emod_nonneg _ (by omega)
            have r2 : y < 2 * n := by rw [← hy]; exact Int.emod_lt_of_pos _ (by omega)
            have hy2 : (m + n).tmod (2 * n) = y := by rw [Int.tmod_eq_emod_of_nonneg (by omega)]; exact hy
            have n0 : ¬ (2 * n = 0) := by omega
            have z2 : IntKind.i64.wrap (2 * n) = 2 * n := IntWalk.i64_in _ (by omega)
            have z4 : IntKind.i64.wrap (m + n) = m + n := IntWalk.i64_in _ (by omega)
            have z3 : IntKind.i64.wrap y = y := IntWalk.i64_in _ (by omega)
            have z5 : IntKind.i64.wrap m = m := IntWalk.i64_in _ (by omega)
            have K1 := Lib.hid hM2
            have K2 := Lib.hid hO2
            have K3 := Lib.hid hB2
            have K4 := Lib.hid hL2
            have K6 := Lib.hid hcnt2
            have KY := Lib.hid hy
            clear hM2 hO2 hB2 hL2 hcnt2 hst hm hW hcnt hbq hv hy e1 hO hM hB hL hkd
            go_upto_region 13 with fail
            refine gen_world (fun x => Own x w.heap.size (bcl n ms bs) 38 ∧ Own x (w.heap.size + 1) (icells [ca, cb]) 2 ∧ Own x (w.heap.size + 2) (bools ((mb.set q.toNat true).set m.toNat true)) 33 ∧ Below w.heap.size w x) ⟨K2.out, K4.out, K1.out, K3.out⟩ ?_
            clear K1 K2 K3 K4 j1 c1 c2 c3 f1 f2
            rintro wx ⟨hO, hL, hM, hB⟩
            refine wp_region_st (fun x => Own x w.heap.size (bcl n ms bs) 38) [(true, 0), (true, 1), (true, 2), (true, 4), (true, 5), (true, 6), (false, 3), (false, 7)] 8 (by kernel_rfl) (by kernel_rfl) (hO.drewN 1) ?_
            have hOd : Own { wx with drawn := wx.drawn + 1 } w.heap.size (bcl n ms bs) 38 := hO
            have hLd : Own { wx with drawn := wx.drawn + 1 } (w.heap.size + 1) (icells [ca, cb]) 2 := hL
            have hMd : Own { wx with drawn := wx.drawn + 1 } (w.heap.size + 2) (bools ((mb.set q.toNat true).set m.toNat true)) 33 := hM
            have hBd : Below w.heap.size w { wx with drawn := wx.drawn + 1 } := hB.drew
            clear hO hL hM hB
            generalize ({ wx with drawn := wx.drawn + 1 } : World) = w8 at *
            simp only [List.map_cons, List.map_nil, opS'_mk, opN_zero, opN_succ, List.drop_succ_cons, List.drop_zero]
            cases acc with
            | true =>
              have mk := mJ1
              have na := nA1
              simp only [show lk true = Value.iface 89 (.agg #[]) from rfl]
              (apply wpSt_read; · (intro wd hS K hK; clear hS; go_simp; exact hK))
              (apply wpSt_read; · (intro wd hS K hK; rw [if_pos (by rfl)]; refine still_load_row 38 (.tmp 1) rfl w.heap.size rfl 38 (bcl n ms bs) _ hS Try.underlying38 rfl (rowB (b33 _ _ _ hl.out hk.out)) ?_; exact hK))
              (apply wpSt_read; · (intro wd hS K hK; clear hS; go_simp; exact hK))
              (apply wpSt_read; · (intro wd hS K hK; clear hS; go_simp; exact hK))
              (apply wpSt_read; · (intro wd hS K hK; clear hS; go_simp; exact hK))
              (apply wpSt_read; · (intro wd hS K hK; clear hS; go_simp; exact hK))
              refine wpSt_keep (fun K hK => ?_)
              go_wp2_with (first
                | (go_at_call 68; ((with_reducible refine (hkd'.out w8).mono ?_); rintro e w9 ⟨rfl, hB9⟩)))
              refine hK _ _ (hOd.below hB9 hOd.lt) rfl ?_
              clear hK K
              have KO := hOd.below hB9 hOd.lt
              have KL := hLd.below hB9 hLd.lt
              have KM := hMd.below hB9 hMd.lt
              have KB := hBd.trans (hB9.mono hBd.size)
              clear hOd hLd hMd hBd hB9
              refine wpSt_keep (fun K hK => ?_)
              go_wp2_with (first
                | (go_at_call 105; ((with_reducible refine (join1_any _ w9).mono ?_); rintro e wa ⟨rfl, hBa⟩)))
              refine hK _ _ (KO.below hBa KO.lt) rfl ?_
              clear hK K
              have hO2 := KO.below hBa KO.lt
              have hL2 := KL.below hBa KL.lt
              have hM2 := KM.below hBa KM.lt
              have hB2 := KB.trans (hBa.mono KB.size)
              clear KO KL KM KB hBa mk na
              refine wpSt_nil ?_
              go_wp2
              go_roundg f'
              case measure => omega
              case rel => exact ⟨y, _, true || v, r0, r2, rfl, by first | rfl | (cases v <;> rfl), hLn2, K6.out, hW2, hO2, hL2, hM2, hB2⟩
            | false =>
              have mk := mJ0
              have na := nA0
              simp only [show lk false = Value.iface 91 (.agg #[]) from rfl]
              (apply wpSt_read; · (intro wd hS K hK; clear hS; go_simp; exact hK))
              (apply wpSt_read; · (intro wd hS K hK; rw [if_pos (by rfl)]; refine still_load_row 38 (.tmp 1) rfl w.heap.size rfl 38 (bcl n ms bs) _ hS Try.underlying38 rfl (rowB (b33 _ _ _ hl.out hk.out)) ?_; exact hK))
              (apply wpSt_read; · (intro wd hS K hK; clear hS; go_simp; exact hK))
              (apply wpSt_read; · (intro wd hS K hK; clear hS; go_simp; exact hK))
              (apply wpSt_read; · (intro wd hS K hK; clear hS; go_simp; exact hK))
              (apply wpSt_read; · (intro wd hS K hK; clear hS; go_simp; exact hK))
              refine wpSt_keep (fun K hK => ?_)
              go_wp2_with (first
                | (go_at_call 68; ((with_reducible refine (hkd'.out w8).mono ?_); rintro e w9 ⟨rfl, hB9⟩)))
              refine hK _ _ (hOd.below hB9 hOd.lt) rfl ?_
              clear hK K
              have KO := hOd.below hB9 hOd.lt
              have KL := hLd.below hB9 hLd.lt
              have KM := hMd.below hB9 hMd.lt
              have KB := hBd.trans (hB9.mono hBd.size)
              clear hOd hLd hMd hBd hB9
              refine wpSt_keep (fun K hK => ?_)
              go_wp2_with (first
                | (go_at_call 108; ((with_reducible refine (join0_any _ w9).mono ?_); rintro e wa ⟨rfl, hBa⟩)))
              refine hK _ _ (KO.below hBa KO.lt) rfl ?_
              clear hK K
              have hO2 := KO.below hBa KO.lt
              have hL2 := KL.below hBa KL.lt
              have hM2 := KM.below hBa KM.lt
              have hB2 := KB.trans (hBa.mono KB.size)
              clear KO KL KM KB hBa mk na
              refine wpSt_nil ?_
              go_wp2
              go_roundg f'
              case measure => omega
              case rel => exact ⟨y, _, false || v, r0, r2, rfl, by first | rfl | (cases v <;> rfl), hLn2, K6.out, hW2, hO2, hL2, hM2, hB2⟩
    · have e := Lib.hid (show (2 * n).toNat = k by omega)
      go_wp2
      go_ret
      exact ⟨rfl, by rw [e.out]; exact hL, hB⟩
end Go.Proofs.Ytbegolbognkefaa
