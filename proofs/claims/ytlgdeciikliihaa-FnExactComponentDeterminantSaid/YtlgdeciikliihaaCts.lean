/- The model's count of curves. -/
import Derived.Test.YtlgdeciikliihaaSwk
import Derived.Test.YtlgdeciikliihaaBl
namespace Go.Proofs.Ytlgdeciikliihaa
open Go.RowKit
set_option linter.unusedVariables false
set_option linter.unusedSimpArgs false
def f12 : List Bool := List.replicate 12 false
theorem built12b : Try.prog.built 119 [] = some (bcells f12) := by kernel_rfl
theorem row12b : (Try.prog.info? 119).map (·.size) = some (bcells f12).size := by kernel_rfl
theorem one12b (mb : List Bool) : (bcells mb).all (·.oneCell') = true := by simp [bcells, Value.oneCell']
set_option maxRecDepth 100000 in
set_option maxHeartbeats 1000000 in
theorem cts_any (s t : ByteArray) (hm : s.size ≤ 1048576) (ht : t.size ≤ 1048576) (oa ob : List Int) (h1 : sarc s.data.toList = some oa) (h2 : sarc t.data.toList = some ob) (L : Nat) (hs : s.size = L) (ht2 : t.size = L) (w : World) :
    Calls Try.prog 44 #[.string s, .string t] w fun e w' => e = .returned (.int .i64 (comps (mf oa) (mf ob) L : Nat)) ∧ Below w.heap.size w w' := by
  have hca := Lib.hid (fun w => sar_some s w hm oa h1)
  have hcb := Lib.hid (fun w => sar_some t w ht ob h2)
  have ha := sarc_sys h1
  have hb := sarc_sys h2
  rw [size_list, hs] at ha
  rw [size_list, ht2] at hb
  have h12 := ha.top
  have hla := Lib.hid ha.len
  have hlb := Lib.hid hb.len
  have HC := Lib.hid (show ∀ (i m : Nat) (wc : World), i < L → (nlN (curve (mf oa) (mf ob) i)).length = m → Calls Try.prog 77 #[.agg (icells oa), .agg (icells ob), .int .i64 i] wc fun e w' => ∃ g cap, e = .returned (.slice (some ⟨g, 0, none⟩) m cap) ∧ Ints w' wc.heap.size g cap (nlN (curve (mf oa) (mf ob) i)) ∧ Below wc.heap.size wc w' from
    fun i m wc hi hm => (swk_any L oa ob ha hb i hi wc).mono fun e w' ⟨g, cap, h1, h2, h3⟩ => ⟨g, cap, by rw [h1, ← hm]; rfl, h2, h3⟩)
  have HL := Lib.hid (fun s (hs : s < L) => curve_lt ha.mf hb.mf h12 hs)
  have hR := Lib.hid (show (cntL (mf oa) (mf ob) 12 L).2 = comps (mf oa) (mf ob) L from rfl)
  generalize hF : mf oa = F at *
  generalize hG : mf ob = G at *
  clear hF hG ha hb h1 h2 hm ht ht2
  go_enter Try.func44, Try.ntmps44
  go_wp2_with (first
    | (go_at_call 76; ((with_reducible refine (hca.out w).mono ?_); rintro e w1 ⟨rfl, hB1⟩))
    | (go_at_call 76; ((with_reducible refine (hcb.out _).mono ?_); rintro e w3 ⟨rfl, hB3⟩))
    | (refine wpList_store_own rfl 116 _ _ rfl _ _ rfl rfl 116 _ (Own.new w1 _ _) (row12i (i12s _ (hla.out))) (st12 hla.out) (one12i _) ?_; intro w2 hO2 hN2)
    | (refine wpList_store_own rfl 116 _ _ rfl _ _ rfl rfl 116 _ (Own.new w3 _ _) (row12i (i12s _ (hlb.out))) (st12 hlb.out) (one12i _) ?_; intro w4 hO4 hN4)
    | (refine wpList_build_of rfl 119 #[] rfl (bcells f12) ?_ ?_; (exact built12b))
    | (refine wpList_store_own rfl 119 _ _ rfl _ _ rfl rfl 119 _ (Own.new w4 _ _) row12b rfl (one12b _) ?_; intro w5 hO5 hN5))
  have B2 := (hB1.alloc hB1.size _).trans (hN2.below.mono hB1.size)
  have B3 := B2.trans (hB3.mono B2.size)
  have B4 := (B3.alloc B3.size _).trans (hN4.below.mono B3.size)
  have B5 := (B4.alloc B4.size _).trans (hN5.below.mono B4.size)
  have A5 : Own w5 w1.heap.size (icells oa) 116 := by
    have l3 := Nat.lt_of_lt_of_le hO2.lt hB3.size
    have a3 := (hO2.below hB3 hO2.lt).alloc (.cells (icells z12) 116)
    have a4 := a3.only hN4 (Nat.ne_of_lt l3)
    exact (a4.alloc _).only hN5 (Nat.ne_of_lt a4.lt)
  have C5 : Own w5 w3.heap.size (icells ob) 116 := (hO4.alloc _).only hN5 (Nat.ne_of_lt hO4.lt)
  have ne1 : w1.heap.size ≠ w4.heap.size := by
    have l3 := Nat.lt_of_lt_of_le hO2.lt hB3.size
    have l4 := hO4.lt
    omega
  have ne2 : w3.heap.size ≠ w4.heap.size := Nat.ne_of_lt hO4.lt
  have ge1 : w.heap.size ≤ w4.heap.size := B4.size
  obtain ⟨ga, hga⟩ : ∃ ga, w1.heap.size = ga := ⟨_, rfl⟩
  obtain ⟨gb, hgb⟩ : ∃ gb, w3.heap.size = gb := ⟨_, rfl⟩
  obtain ⟨gm, hgm⟩ : ∃ gm, w4.heap.size = gm := ⟨_, rfl⟩
  rw [hga] at A5 ne1
  rw [hgb] at C5 ne2
  rw [hgm] at hO5 ne1 ne2 ge1
  rw [hga, hgb, hgm]
  clear hga hgb hgm hO2 hO4 hN2 hN4 hN5 B2 B3 B4 hB1 hB3
  go_wp2
  go_loopw [10, 11] (fun c i wr => ∃ k : Nat, k ≤ L ∧ i = .int .i64 k ∧ c = .int .i64 ((cntL F G 12 k).2 : Nat) ∧ Own wr gm (bcells (cntL F G 12 k).1) 119 ∧ Own wr ga (icells oa) 116 ∧ Own wr gb (icells ob) 116 ∧ Below w.heap.size w wr) (fun _ i _ => ((L : Int) - intOf i).toNat)
  case atStart => exact ⟨0, by omega, rfl, rfl, hO5, A5, C5, B5⟩
  case round =>
    clear hO5 A5 C5 B5
    obtain ⟨k, hk, rfl, rfl, hM, hA, hC, hW⟩ := hrel
    have hkl := cntL_len F G 12 k
    have hkb := cntL_bd F G 12 k
    by_cases hlt : k < L
    · have hltI : (k : Int) < L := by omega
      have k12 : (k : Int) < 12 := by omega
      have k1 := hM.cell k
      rw [bcells_get _ _ (by rw [hkl]; omega)] at k1
      obtain ⟨b, hbq⟩ : ∃ b, (cntL F G 12 k).1.getD k true = b := ⟨_, rfl⟩
      rw [hbq] at k1
      cases b with
      | true =>
        have e1 := Lib.hid (show cntL F G 12 (k + 1) = cntL F G 12 k by rw [cntL, if_pos hbq])
        clear hbq
        go_wp2
        go_roundw
        case rel => exact ⟨k + 1, by omega, by go_num, by rw [e1.out], by rw [e1.out]; exact hM, hA, hC, hW⟩
        case measure => simp [intOf]; omega
      | false =>
        have e1 := Lib.hid (show cntL F G 12 (k + 1) = (markN (cntL F G 12 k).1 (curve F G k), (cntL F G 12 k).2 + 1) by rw [cntL, if_neg (by rw [hbq]; simp)])
        obtain ⟨mb0, hmb0⟩ : ∃ mb0, (cntL F G 12 k).1 = mb0 := ⟨_, rfl⟩
        obtain ⟨c, hc⟩ : ∃ c, (cntL F G 12 k).2 = c := ⟨_, rfl⟩
        rw [hmb0] at hM hkl e1 hbq
        rw [hc] at hkb e1 ⊢
        obtain ⟨hcl, hcn⟩ := HL.out k hlt
        obtain ⟨cv, hcv⟩ : ∃ cv, curve F G k = cv := ⟨_, rfl⟩
        have HK := HC.out k cv.length
        rw [hcv] at e1 hcl hcn HK
        have HK := Lib.hid (fun wc => HK wc hlt (nlN_len cv))
        have HCL := Lib.hid hcl
        obtain ⟨m, hm⟩ : ∃ m, cv.length = m := ⟨_, rfl⟩
        rw [hm] at HK hcn
        have HM := Lib.hid hm
        have hkl' := Lib.hid hkl
        clear hmb0 hc hbq hcv hcl hm hkl
        go_wp2_with (first
          | (refine wpList_load_row rfl 116 (.tmp 5) rfl _ rfl 116 _ (0, 0) _ hA Try.underlying116 rfl (row12i (i12s _ hla.out)) ?_)
          | (refine wpList_load_row rfl 116 (.tmp 7) rfl _ rfl 116 _ (0, 0) _ hC Try.underlying116 rfl (row12i (i12s _ hlb.out)) ?_)
          | (go_at_call 77; ((with_reducible refine (HK.out _).mono ?_); rintro e w6 ⟨g, cap, rfl, hI2, hB2⟩)))
        have hM2 := hM.below hB2 hM.lt
        have hA2 := hA.below hB2 hA.lt
        have hC2 := hC.below hB2 hC.lt
        have hW2 := hW.trans (hB2.mono hW.size)
        have hne : gm ≠ g := by have := hI2.1; have := hM.lt; omega
        clear hM hW hA hC hB2
        obtain ⟨wo, rfl⟩ : ∃ wo : World, wo = wr := ⟨_, rfl⟩
        go_wp2
        go_loopw [13] (fun i wx => ∃ j : Nat, j ≤ m ∧ i = .int .i64 j ∧ Own wx gm (bcells (markN mb0 (cv.take j))) 119 ∧ Ints wx wo.heap.size g cap (nlN cv) ∧ Own wx ga (icells oa) 116 ∧ Own wx gb (icells ob) 116 ∧ Below w.heap.size w wx) (fun i _ => ((m : Int) - intOf i).toNat)
        case atStart => exact ⟨0, by omega, rfl, hM2, hI2, hA2, hC2, hW2⟩
        case round =>
          clear hM2 hI2 hW2 hA2 hC2
          obtain ⟨j, hj, rfl, hM, hI, hA, hC, hW⟩ := hrel
          by_cases hjm : j < m
          · have hjI : (j : Int) < m := by omega
            have d1 := hI.cell j (by rw [nlN_len, HM.out]; exact hjm)
            rw [nlN_get _ _ (by rw [HM.out]; exact hjm)] at d1
            have hst := Lib.hid (markN_step mb0 cv j (by rw [HM.out]; exact hjm))
            have hx := HCL.out (cv.getD j 0) (by rw [List.getD_eq_getElem?_getD, List.getElem?_eq_getElem (by rw [HM.out]; exact hjm)]; exact List.getElem_mem _)
            obtain ⟨x, hxx⟩ : ∃ x, cv.getD j 0 = x := ⟨_, rfl⟩
            rw [hxx] at d1 hst hx
            have hml := Lib.hid (show (markN mb0 (cv.take j)).length = 12 by rw [markN_len]; exact hkl'.out)
            have x12 : x < 12 := by omega
            have d2 := hM.cell x
            rw [bcells_get _ _ (by rw [hml.out]; omega)] at d2
            have f2 := hM.free x
            have hM3 := hM.set x (.bool true)
            rw [bcells_set, ← hst.out] at hM3
            have K1 := Lib.hid hM3
            have K2 := Lib.hid (hI.only (Only.set gm x wr (.bool true)) hne.symm)
            have K3 := Lib.hid (hW.setCell (p := ⟨gm, x, none⟩) ge1 (.bool true))
            have K4 := Lib.hid (hA.other (a := ⟨gm, x, none⟩) ne1.symm (.bool true))
            have K5 := Lib.hid (hC.other (a := ⟨gm, x, none⟩) ne2.symm (.bool true))
            clear hM3 hxx hM hI hA hC
            go_wp2
            go_roundw
            case rel => exact ⟨j + 1, by omega, by go_num, K1.out, K2.out, K4.out, K5.out, K3.out⟩
            case measure => simp [intOf]; omega
          · have e : j = m := by omega
            have hE := Lib.hid (show markN mb0 (cv.take j) = (cntL F G 12 (k + 1)).1 by rw [e1.out, e, ← HM.out, List.take_length])
            rw [hE.out] at hM
            go_wp2
            go_roundw
            case rel => exact ⟨k + 1, by omega, by go_num, by rw [e1.out]; simp, hM, hA, hC, hW⟩
            case measure => simp [intOf]; omega
    · have e : k = L := by omega
      subst e
      rw [hR.out]
      go_wp2
      go_ret
      exact ⟨rfl, hW⟩
end Go.Proofs.Ytlgdeciikliihaa
