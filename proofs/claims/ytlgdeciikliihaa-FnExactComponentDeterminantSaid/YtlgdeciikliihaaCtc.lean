/- The program's count of curves. -/
import Derived.Test.YtlgdeciikliihaaCui
import Derived.Test.YtlgdeciikliihaaHas
namespace Go.Proofs.Ytlgdeciikliihaa
open Go.RowKit
set_option linter.unusedVariables false
set_option linter.unusedSimpArgs false
theorem Own.neT {w : World} {b b' : Nat} {cs cs' : Array Value} {t t' : TypeId} (h : Own w b cs t) (h' : Own w b' cs' t') (ht : t ≠ t') : b ≠ b' := by
  rintro rfl
  have : some (Obj.cells cs t (0, 0)) = some (Obj.cells cs' t' (0, 0)) := (show w.heap[b]? = _ from h).symm.trans h'
  simp at this
  exact ht this.2
set_option maxRecDepth 100000 in
set_option maxHeartbeats 1000000 in
theorem ctc_any (L : Nat) (oa ob : List Int) (ha : Sys L oa) (hb : Sys L ob) (ga gb : Nat) (w : World) (hA : Arc w ga L oa) (hB : Arc w gb L ob) :
    Calls Try.prog 50 #[.slice (some ⟨ga, 0, none⟩) L L, .slice (some ⟨gb, 0, none⟩) L L] w fun e w' => e = .returned (.int .i64 (comps (mf oa) (mf ob) L : Nat)) ∧ Below w.heap.size w w' := by
  have h12 := ha.top
  have hga := Own.lt hA
  have hgb := Own.lt hB
  have HC := Lib.hid (show ∀ (s m : Nat) (wc : World), s < L → (nlN (curve (mf oa) (mf ob) s)).length = m → Below w.heap.size w wc → Calls Try.prog 80 #[.slice (some ⟨ga, 0, none⟩) L L, .slice (some ⟨gb, 0, none⟩) L L, .int .i64 s] wc fun e w' => ∃ g cap, e = .returned (.slice (some ⟨g, 0, none⟩) m cap) ∧ Ints w' wc.heap.size g cap (nlN (curve (mf oa) (mf ob) s)) ∧ Below wc.heap.size wc w' from
    fun s m wc hs hm hBc => (cui_any L oa ob ha hb ga gb s hs wc (Own.below hA hBc hga) (Own.below hB hBc hgb)).mono fun e w' ⟨g, cap, h1, h2, h3⟩ => ⟨g, cap, by rw [h1, ← hm]; rfl, h2, h3⟩)
  have HL := Lib.hid (fun s (hs : s < L) => curve_lt ha.mf hb.mf h12 hs)
  have hR := Lib.hid (show (cntL (mf oa) (mf ob) L L).2 = comps (mf oa) (mf ob) L from (cntL_take _ _ L 12 h12 L (Nat.le_refl _)).2)
  generalize hF : mf oa = F at *
  generalize hG : mf ob = G at *
  clear hF hG ha hb hA hB
  have hmk := makeBo L (by omega)
  go_enter Try.func50, Try.ntmps50
  go_wp2
  clear hmk
  go_loopw [6, 15] (fun c i wr => ∃ k : Nat, k ≤ L ∧ i = .int .i64 k ∧ c = .int .i64 ((cntL F G L k).2 : Nat) ∧ Own wr w.heap.size (bcells (cntL F G L k).1) 4 ∧ Below w.heap.size w wr) (fun _ i _ => ((L : Int) - intOf i).toNat)
  case atStart => exact ⟨0, by omega, rfl, rfl, Own.new _ _ _, (Below.refl _ _).alloc (Nat.le_refl _) _⟩
  case round =>
    obtain ⟨k, hk, rfl, rfl, hM, hW⟩ := hrel
    have hkl := cntL_len F G L k
    have hkb := cntL_bd F G L k
    by_cases hlt : k < L
    · have hltI : (k : Int) < L := by omega
      have k1 := hM.cell k
      rw [bcells_get _ _ (by rw [hkl]; omega)] at k1
      obtain ⟨b, hbq⟩ : ∃ b, (cntL F G L k).1.getD k true = b := ⟨_, rfl⟩
      rw [hbq] at k1
      cases b with
      | true =>
        have e1 := Lib.hid (show cntL F G L (k + 1) = cntL F G L k by rw [cntL, if_pos hbq])
        clear hbq
        go_wp2
        go_roundw
        case rel => exact ⟨k + 1, by omega, by go_num, by rw [e1.out], by rw [e1.out]; exact hM, hW⟩
        case measure => simp [intOf]; omega
      | false =>
        have e1 := Lib.hid (show cntL F G L (k + 1) = (markN (cntL F G L k).1 (curve F G k), (cntL F G L k).2 + 1) by rw [cntL, if_neg (by rw [hbq]; simp)])
        obtain ⟨mb0, hmb0⟩ : ∃ mb0, (cntL F G L k).1 = mb0 := ⟨_, rfl⟩
        obtain ⟨c, hc⟩ : ∃ c, (cntL F G L k).2 = c := ⟨_, rfl⟩
        rw [hmb0] at hM hkl e1 hbq
        rw [hc] at hkb e1 ⊢
        obtain ⟨hcl, hcn⟩ := HL.out k hlt
        obtain ⟨cv, hcv⟩ : ∃ cv, curve F G k = cv := ⟨_, rfl⟩
        have HK := HC.out k cv.length
        rw [hcv] at e1 hcl hcn HK
        have HK := Lib.hid (fun wc h => HK wc hlt (nlN_len cv) h)
        have HCL := Lib.hid hcl
        obtain ⟨m, hm⟩ : ∃ m, cv.length = m := ⟨_, rfl⟩
        rw [hm] at HK hcn
        have HM := Lib.hid hm
        have hkl' := Lib.hid hkl
        clear hmb0 hc hbq hcv hcl hm hkl
        go_wp2_with (first
          | (go_at_call 80; ((with_reducible refine (HK.out _ hW).mono ?_); rintro e w2 ⟨g, cap, rfl, hI2, hB2⟩)))
        have hM2 := hM.below hB2 hM.lt
        have hW2 := hW.trans (hB2.mono hW.size)
        have hne : w.heap.size ≠ g := by have := hI2.1; have := hM.lt; omega
        have hgw := hI2.lt
        clear hM hW hB2
        obtain ⟨wo, rfl⟩ : ∃ wo : World, wo = wr := ⟨_, rfl⟩
        go_loopw [29] (fun i wx => ∃ j : Nat, j ≤ m ∧ i = .int .i64 j ∧ Own wx w.heap.size (bcells (markN mb0 (cv.take j))) 4 ∧ Ints wx wo.heap.size g cap (nlN cv) ∧ Below w.heap.size w wx) (fun i _ => ((m : Int) - intOf i).toNat)
        case atStart => exact ⟨0, by omega, rfl, hM2, hI2, hW2⟩
        case round =>
          clear hM2 hI2 hW2
          obtain ⟨j, hj, rfl, hM, hI, hW⟩ := hrel
          by_cases hjm : j < m
          · have hjI : (j : Int) < m := by omega
            have d1 := hI.cell j (by rw [nlN_len, HM.out]; exact hjm)
            rw [nlN_get _ _ (by rw [HM.out]; exact hjm)] at d1
            have hst := Lib.hid (markN_step mb0 cv j (by rw [HM.out]; exact hjm))
            have hx := HCL.out (cv.getD j 0) (by rw [List.getD_eq_getElem?_getD, List.getElem?_eq_getElem (by rw [HM.out]; exact hjm)]; exact List.getElem_mem _)
            obtain ⟨x, hxx⟩ : ∃ x, cv.getD j 0 = x := ⟨_, rfl⟩
            rw [hxx] at d1 hst hx
            have hml := Lib.hid (show (markN mb0 (cv.take j)).length = L by rw [markN_len]; exact hkl'.out)
            have d2 := hM.cell x
            rw [bcells_get _ _ (by rw [hml.out]; exact hx)] at d2
            have f2 := hM.free x
            have hM3 := hM.set x (.bool true)
            rw [bcells_set, ← hst.out] at hM3
            have K1 := Lib.hid hM3
            have hI3 := hI.only (Only.set w.heap.size x wr (.bool true)) hne.symm
            have K2 := Lib.hid hI3
            have hW3 := hW.setCell (p := ⟨w.heap.size, x, none⟩) (Nat.le_refl _) (.bool true)
            have K3 := Lib.hid hW3
            clear hM3 hI3 hW3 hxx hM hI
            go_wp2
            go_roundw
            case rel => exact ⟨j + 1, by omega, by go_num, K1.out, K2.out, K3.out⟩
            case measure => simp [intOf]; omega
          · have e : j = m := by omega
            have hE := Lib.hid (show markN mb0 (cv.take j) = (cntL F G L (k + 1)).1 by rw [e1.out, e, ← HM.out, List.take_length])
            rw [hE.out] at hM
            go_wp2
            go_roundw
            case rel => exact ⟨k + 1, by omega, by go_num, by rw [e1.out]; simp, hM, hW⟩
            case measure => simp [intOf]; omega
    · have e : k = L := by omega
      subst e
      rw [hR.out]
      go_wp2
      go_ret
      exact ⟨rfl, hW⟩
end Go.Proofs.Ytlgdeciikliihaa
