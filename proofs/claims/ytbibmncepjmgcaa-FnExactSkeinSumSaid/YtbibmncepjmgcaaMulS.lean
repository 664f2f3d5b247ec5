/- Contracts of the model's products of diagrams. -/
import Derived.Test.YtbibmncepjmgcaaKq
import Derived.Deep.LoopGhost
import Derived.RegionTactic
import Derived.ChangeAlike
namespace Go.Proofs.Ytbibmncepjmgcaa
open Go.RowKit
open LoopM
set_option maxRecDepth 100000 in
set_option maxHeartbeats 1000000 in
theorem followS_any (n : Int) (ds es : List Int) (hds : ds.length = 16) (hes : es.length = 16) (hbd : Bytes ds) (hbe : Bytes es) (hd : IsS n ds) (he : IsS n es) (mb0 : List Bool) (hmb : mb0.length = 8) (g : Nat) (q : Int) (q0 : 0 ≤ q) (q2 : q < 2 * n) (w : World) (hg : Own w g (bcells mb0) 118) :
    Calls Try.prog 105 #[.agg (dcells n ds), .agg (dcells n es), .int .i64 q, .bool (decide (q < n)), .pointer (some ⟨g, 0, none⟩)] w fun e w' => (∃ b : Bool, e = .returned (.tuple #[.int .i64 (eP n (mate ds) (mate es) q), .bool b])) ∧ Own w' g (bcells (mark (lP n (mate ds) (mate es) q) mb0)) 118 ∧ Most g w w' := by
  have hld := Lib.hid hds
  have hle := Lib.hid hes
  have hml := Lib.hid hmb
  have Md := Lib.hid (mt_of hbd hd)
  have Me := Lib.hid (mt_of hbe he)
  obtain ⟨h1, h8⟩ := hd.1
  have hF := Lib.hid (fol_p (mt_of hbd hd) (mt_of hbe he) h1 h8 q0 q2)
  obtain ⟨E, hE⟩ : ∃ E, eP n (mate ds) (mate es) q = E := ⟨_, rfl⟩
  obtain ⟨L0, hL0⟩ : ∃ L0, lP n (mate ds) (mate es) q = L0 := ⟨_, rfl⟩
  obtain ⟨mbE, hmE⟩ : ∃ mbE, mark L0 mb0 = mbE := ⟨_, rfl⟩
  rw [hE, hL0] at hF ⊢
  rw [hmE]
  have hM0 := Lib.hid hmE
  have glt := hg.lt
  have c0 := dcells_zero n ds
  obtain ⟨up, hup⟩ : ∃ up, decide (q < n) = up := ⟨_, rfl⟩
  rw [hup] at hF ⊢
  clear hds hes hbd hbe hd he hmb hE hL0 hmE hup
  go_enter Try.func105, Try.ntmps105
  go_wp2
  have hO : Own ((w.alloc (.cells (dcells n ds) 53)).alloc (.cells (dcells n es) 53)) w.heap.size (dcells n ds) 53 := Own.alloc (Own.new _ _ _) _
  have hP : Own ((w.alloc (.cells (dcells n ds) 53)).alloc (.cells (dcells n es) 53)) (w.heap.size + 1) (dcells n es) 53 := Own.at _ _ _ (by simp)
  have hM : Own ((w.alloc (.cells (dcells n ds) 53)).alloc (.cells (dcells n es) 53)) g (bcells mb0) 118 := (hg.alloc _).alloc _
  have hB : Most g w ((w.alloc (.cells (dcells n ds) 53)).alloc (.cells (dcells n es) 53)) := ((Most.refl _ _).alloc _).alloc _
  generalize (w.alloc (.cells (dcells n ds) 53)).alloc (.cells (dcells n es) 53) = wa at hO hP hM hB ⊢
  clear hg c0
  go_loopg [2, 3] 17 (fun f i u wx => ∃ (p : Int) (mb : List Bool) (L : List Int) (up : Bool), i = .int .i64 p ∧ u = .bool up ∧ 0 ≤ p ∧ p < 2 * n ∧ Hid (mb.length = 8) ∧ Hid (fol n (mate ds) (mate es) f up p = some (E, L)) ∧ Hid (mark L mb = mbE) ∧ Own wx w.heap.size (dcells n ds) 53 ∧ Own wx (w.heap.size + 1) (dcells n es) 53 ∧ Own wx g (bcells mb) 118 ∧ Most g w wx)
  case atStart => exact ⟨q, mb0, L0, up, rfl, rfl, q0, q2, hml, hF, hM0, hO, hP, hM, hB⟩
  case round =>
    clear hO hP hM hB hF hM0 hml q0 q2 up
    obtain ⟨p, mb, L, up, rfl, rfl, p0, p2, hmb, hfol, hmark, hO, hP, hM, hB⟩ := hrel
    have p16 : p < 16 := by omega
    cases up with
    | true =>
      obtain ⟨f', hff, hcase⟩ := fol_t hfol.out
      subst hff
      have db := Md.out.lt p p0 p2
      obtain ⟨m, hm⟩ : ∃ m, mate ds p = m := ⟨_, rfl⟩
      have c1 : wr.cell? ⟨w.heap.size, 1 + p.toNat, none⟩ = some (.int .u8 m) := by rw [hO.cell, dcells_get _ _ _ (by rw [hld.out]; omega)]; unfold mate at hm; rw [hm]
      rw [hm] at hcase db
      obtain ⟨m0, m2⟩ := db
      rcases hcase with ⟨hmn, rfl, rfl⟩ | ⟨hmn, L', rfl, hfol'⟩
      · have hR := Lib.hid (show Own wr g (bcells mbE) 118 by rw [← hmark.out]; exact hM)
        have hBB := Lib.hid hB
        clear hfol hmark hO hP hM hB hm
        go_wp2
        go_ret2
        exact ⟨⟨_, rfl⟩, hR.out, hBB.out⟩
      · have f1 := hM.free (m - n).toNat
        have c2 := hM.cell (m - n).toNat
        rw [bcells_get _ _ (by rw [hmb.out]; omega)] at c2
        have hM2 := hM.set (m - n).toNat (.bool true)
        rw [bcells_set] at hM2
        have k1 := Lib.hid hM2
        have k2 := Lib.hid (hO.other (a := ⟨g, (m - n).toNat, none⟩) (by simp; omega) (.bool true))
        have k3 := Lib.hid (hP.other (a := ⟨g, (m - n).toNat, none⟩) (by simp; omega) (.bool true))
        have k4 := Lib.hid (hB.setCell (m - n).toNat (.bool true))
        have k5 := Lib.hid hfol'
        have k6 := Lib.hid (show mark L' (mb.set (m - n).toNat true) = mbE by rw [← hmark.out]; rfl)
        have k7 := Lib.hid (show (mb.set (m - n).toNat true).length = 8 by rw [List.length_set]; exact hmb.out)
        have m8 : m - n < 8 := by omega
        clear hfol hmark hO hP hM hM2 hB hm hfol'
        go_wp2
        go_roundg f'
        case measure => omega
        case rel => exact ⟨_, _, L', false, rfl, rfl, by omega, by omega, k7, k5, k6, k2.out, k3.out, k1.out, k4.out⟩
    | false =>
      obtain ⟨f', hff, hcase⟩ := fol_f hfol.out
      subst hff
      have db := Me.out.lt p p0 p2
      obtain ⟨m, hm⟩ : ∃ m, mate es p = m := ⟨_, rfl⟩
      have c1 : wr.cell? ⟨w.heap.size + 1, 1 + p.toNat, none⟩ = some (.int .u8 m) := by rw [hP.cell, dcells_get _ _ _ (by rw [hle.out]; omega)]; unfold mate at hm; rw [hm]
      rw [hm] at hcase db
      obtain ⟨m0, m2⟩ := db
      rcases hcase with ⟨hmn, rfl, rfl⟩ | ⟨hmn, L', rfl, hfol'⟩
      · have hR := Lib.hid (show Own wr g (bcells mbE) 118 by rw [← hmark.out]; exact hM)
        have hBB := Lib.hid hB
        clear hfol hmark hO hP hM hB hm
        go_wp2
        go_ret2
        exact ⟨⟨_, rfl⟩, hR.out, hBB.out⟩
      · have f1 := hM.free m.toNat
        have c2 := hM.cell m.toNat
        rw [bcells_get _ _ (by rw [hmb.out]; omega)] at c2
        have hM2 := hM.set m.toNat (.bool true)
        rw [bcells_set] at hM2
        have k1 := Lib.hid hM2
        have k2 := Lib.hid (hO.other (a := ⟨g, m.toNat, none⟩) (by simp; omega) (.bool true))
        have k3 := Lib.hid (hP.other (a := ⟨g, m.toNat, none⟩) (by simp; omega) (.bool true))
        have k4 := Lib.hid (hB.setCell m.toNat (.bool true))
        have k5 := Lib.hid hfol'
        have k6 := Lib.hid (show mark L' (mb.set m.toNat true) = mbE by rw [← hmark.out]; rfl)
        have k7 := Lib.hid (show (mb.set m.toNat true).length = 8 by rw [List.length_set]; exact hmb.out)
        have m8 : m < 8 := by omega
        clear hfol hmark hO hP hM hM2 hB hm hfol'
        go_wp2
        go_roundg f'
        case measure => omega
        case rel => exact ⟨_, _, L', true, rfl, rfl, by omega, by omega, k7, k5, k6, k2.out, k3.out, k1.out, k4.out⟩
theorem built81S : Try.prog.built 118 [] = some (bcells f8) := by kernel_rfl
set_option maxRecDepth 100000 in
set_option maxHeartbeats 4000000 in
theorem timesS_any (n : Int) (ds es : List Int) (hds : ds.length = 16) (hes : es.length = 16) (hbd : Bytes ds) (hbe : Bytes es) (hd : IsS n ds) (he : IsS n es) (w : World) :
    Calls Try.prog 70 #[.agg (dcells n ds), .agg (dcells n es)] w fun e w' => e = .returned (.tuple #[.agg (dcells n (prodL n (mate ds) (mate es))), .int .i64 (loopsP n (mate ds) (mate es))]) ∧ Below w.heap.size w w' := by
  have hld := Lib.hid hds
  have hle := Lib.hid hes
  have md := mt_of hbd hd
  have me := mt_of hbe he
  obtain ⟨h1, h8⟩ := hd.1
  have hFol := Lib.hid (fun mb0 hmb g q q0 q2 w hg => followS_any n ds es hds hes hbd hbe hd he mb0 hmb g q q0 q2 w hg)
  have hE := Lib.hid (fun (p : Int) (p0 : 0 ≤ p) (p2 : p < 2 * n) => (p_bd md me h1 h8 p0 p2).1)
  have hSw := Lib.hid (fun k hk => (lps_swap (metA_len n (mate ds) (mate es)) h8 (free_d md me h1 h8) (free_e md me h1 h8) k hk).2)
  have c0 := dcells_zero n ds
  have hlp := Lib.hid (prodL_len n (mate ds) (mate es))
  have hla := Lib.hid (metA_len n (mate ds) (mate es))
  rw [← loops_eq md me h1 h8]
  have hpr0 := prod_eq (d := mate ds) (e := mate es) h1 h8
  have hme0 := met_eq md me h1 h8
  obtain ⟨pr, hpr⟩ : ∃ pr, prodL n (mate ds) (mate es) = pr := ⟨_, rfl⟩
  obtain ⟨M, hMe⟩ : ∃ M, metA n (mate ds) (mate es) = M := ⟨_, rfl⟩
  rw [hpr] at hlp hpr0 ⊢
  rw [hMe] at hSw hla ⊢
  have hPR := Lib.hid hpr0
  have hME := Lib.hid (show metS n (mate ds) (mate es) n.toNat = M from hme0.trans hMe)
  obtain ⟨lc, hlc⟩ : ∃ lc, (lps (vD n (mate ds)) (mate es) M n.toNat).2 = lc := ⟨_, rfl⟩
  rw [hlc]
  have hLC := Lib.hid hlc
  clear hds hes hbd hbe hd he md me hpr hMe hlc hpr0 hme0
  go_enter Try.func70, Try.ntmps70
  go_wp2
  go_region
  clear c0
  all_goals have c0 := Lib.hid (dcells_zero n ds)
  · have hOa : Own ((((((w.alloc (.cells (dcells n ds) 53)).alloc (.cells (dcells n es) 53)).alloc (.cells zcells 53)).alloc (.cells (bcells f8) 118)).alloc (.cells (dcells n zeros) 53)).drew) w.heap.size (dcells n ds) 53 := Own.alloc (Own.alloc (Own.alloc (Own.alloc (Own.new _ _ _) _) _) _) _
    have hPa : Own ((((((w.alloc (.cells (dcells n ds) 53)).alloc (.cells (dcells n es) 53)).alloc (.cells zcells 53)).alloc (.cells (bcells f8) 118)).alloc (.cells (dcells n zeros) 53)).drew) (w.heap.size + 1) (dcells n es) 53 := Own.alloc (Own.alloc (Own.alloc (Own.at _ _ _ (by simp)) _) _) _
    have hZa : Own ((((((w.alloc (.cells (dcells n ds) 53)).alloc (.cells (dcells n es) 53)).alloc (.cells zcells 53)).alloc (.cells (bcells f8) 118)).alloc (.cells (dcells n zeros) 53)).drew) (w.heap.size + 2) zcells 53 := Own.alloc (Own.alloc (Own.at _ _ _ (by simp)) _) _
    have hMa : Own ((((((w.alloc (.cells (dcells n ds) 53)).alloc (.cells (dcells n es) 53)).alloc (.cells zcells 53)).alloc (.cells (bcells f8) 118)).alloc (.cells (dcells n zeros) 53)).drew) (w.heap.size + 3) (bcells f8) 118 := Own.alloc (Own.at _ _ _ (by simp)) _
    have hDa : Own ((((((w.alloc (.cells (dcells n ds) 53)).alloc (.cells (dcells n es) 53)).alloc (.cells zcells 53)).alloc (.cells (bcells f8) 118)).alloc (.cells (dcells n zeros) 53)).drew) (w.heap.size + 4) (dcells n zeros) 53 := Own.at _ _ _ (by simp)
    have hBa : Below w.heap.size w ((((((w.alloc (.cells (dcells n ds) 53)).alloc (.cells (dcells n es) 53)).alloc (.cells zcells 53)).alloc (.cells (bcells f8) 118)).alloc (.cells (dcells n zeros) 53)).drew) := ((((((Below.refl _ _).alloc (Nat.le_refl _) _).alloc (by simp) _).alloc (by simp; omega) _).alloc (by simp; omega) _).alloc (by simp; omega) _).drew
    change Exit.then _ _ _ _ ((((((w.alloc (.cells (dcells n ds) 53)).alloc (.cells (dcells n es) 53)).alloc (.cells zcells 53)).alloc (.cells (bcells f8) 118)).alloc (.cells (dcells n zeros) 53)).drew)
    generalize (((((w.alloc (.cells (dcells n ds) 53)).alloc (.cells (dcells n es) 53)).alloc (.cells zcells 53)).alloc (.cells (bcells f8) 118)).alloc (.cells (dcells n zeros) 53)).drew = wa at *
    go_wp2
    go_loopw [9] (fun i wr => ∃ k : Nat, k ≤ n ∧ i = .int .i64 k ∧ Own wr w.heap.size (dcells n ds) 53 ∧ Own wr (w.heap.size + 1) (dcells n es) 53 ∧ Own wr (w.heap.size + 2) zcells 53 ∧ Own wr (w.heap.size + 4) (dcells n (prS n (mate ds) (mate es) k)) 53 ∧ Own wr (w.heap.size + 3) (bcells (metS n (mate ds) (mate es) k)) 118 ∧ Below w.heap.size w wr) (fun i _ => (n - intOf i).toNat)
    case atStart => exact ⟨0, by omega, rfl, hOa, hPa, hZa, hDa, hMa, hBa⟩
    case round =>
      clear hOa hPa hZa hDa hMa hBa
      obtain ⟨k, hk, rfl, hO, hP, hZ, hD, hM, hB⟩ := hrel
      by_cases hlt : (k : Int) < n
      · have hl1 := prS_len n (mate ds) (mate es) k
        have hl2 := metS_len n (mate ds) (mate es) k
        have hs1 := Lib.hid (show prS n (mate ds) (mate es) (k + 1) = ((prS n (mate ds) (mate es) k).set k (eP n (mate ds) (mate es) k)).set (n + k).toNat (eP n (mate ds) (mate es) (n + k)) from rfl)
        have hs2 := Lib.hid (show metS n (mate ds) (mate es) (k + 1) = mark (lP n (mate ds) (mate es) (n + k)) (mark (lP n (mate ds) (mate es) k) (metS n (mate ds) (mate es) k)) from rfl)
        have hc1 := hFol.out _ hl2 (w.heap.size + 3) k (by omega) (by omega) wr hM
        rw [show decide ((k : Int) < n) = true by simp [hlt]] at hc1
        have hc2 := fun mb hmb g w hg => hFol.out mb hmb g (n + k) (by omega) (by omega) w hg
        rw [show decide (n + (k : Int) < n) = false by simp <;> omega] at hc2
        have eb1 := hE.out k (by omega) (by omega)
        have eb2 := hE.out (n + k) (by omega) (by omega)
        have hl3 := Lib.hid (show (mark (lP n (mate ds) (mate es) k) (metS n (mate ds) (mate es) k)).length = 8 by rw [mark_len]; exact hl2)
        have hcall1 := Lib.hid hc1
        have hcall2 := Lib.hid hc2
        clear hc1 hc2
        obtain ⟨E, hEe⟩ : ∃ E, eP n (mate ds) (mate es) k = E := ⟨_, rfl⟩
        obtain ⟨F, hFe⟩ : ∃ F, eP n (mate ds) (mate es) (n + k) = F := ⟨_, rfl⟩
        rw [hEe] at hs1 hcall1 eb1
        rw [hFe] at hs1 hcall2 eb2
        obtain ⟨E0, E2⟩ := eb1
        obtain ⟨F0, F2⟩ := eb2
        have hk8 : (k : Int) < 8 := by omega
        have e16 : E < 16 := by omega
        have f16 : F < 16 := by omega
        generalize prS n (mate ds) (mate es) k = pl at hD hl1 hs1
        generalize mark (lP n (mate ds) (mate es) k) (metS n (mate ds) (mate es) k) = ml at hs2 hcall1 hl3
        clear hEe hFe hl2
        have hsz := hB.size
        have hl1' := Lib.hid hl1
        clear hl1 hM
        go_wp2_with (first
          | (refine wpList_load_row rfl 53 _ rfl _ rfl 53 _ (0, 0) _ (hO) Try.underlying53 rfl (row26 (d17 _ _ (hld.out))) ?_)
          | (refine wpList_load_row rfl 53 _ rfl _ rfl 53 _ (0, 0) _ (hP) Try.underlying53 rfl (row26 (d17 _ _ (hle.out))) ?_)
          | (refine wpList_load_row rfl 53 _ rfl _ rfl 53 _ (0, 0) _ ((hO.most hT2 (by omega)).other (by simp <;> omega) _) Try.underlying53 rfl (row26 (d17 _ _ (hld.out))) ?_)
          | (refine wpList_load_row rfl 53 _ rfl _ rfl 53 _ (0, 0) _ ((hP.most hT2 (by omega)).other (by simp <;> omega) _) Try.underlying53 rfl (row26 (d17 _ _ (hle.out))) ?_)
          | ((go_at_call 105; ((with_reducible refine (hcall1.out).mono ?_); rintro e w2 ⟨⟨b, rfl⟩, hM2, hT2⟩)); have hD2 := hD.most hT2 (by omega); have c2 := hD2.cell (1 + k); rw [dcells_get _ _ _ (by rw [hl1'.out]; omega)] at c2; have f2 := hD2.free (1 + k); have hD3 := Lib.hid (show Own _ _ _ _ by have h := hD2.set (1 + k) (.int .u8 E); rw [dcells_set] at h; exact h))
          | ((go_at_call 105; ((with_reducible refine (hcall2.out _ hl3.out _ _ (hM2.other (by simp <;> omega) _)).mono ?_); rintro e w3 ⟨⟨b3, rfl⟩, hM3, hT3⟩)); have hD4 := hD3.out.most hT3 (by omega); have c3 := hD4.cell (1 + (n + k).toNat); rw [dcells_get _ _ _ (by rw [List.length_set, hl1'.out]; omega)] at c3; have f3 := hD4.free (1 + (n + k).toNat)))
        go_roundw
        case rel =>
          have hD5 := hD4.set (1 + (n + k).toNat) (.int .u8 F)
          rw [dcells_set, ← hs1.out] at hD5
          refine ⟨k + 1, by omega, by go_num, (((hO.most hT2 (by omega)).other (by simp <;> omega) _).most hT3 (by omega)).other (by simp <;> omega) _, (((hP.most hT2 (by omega)).other (by simp <;> omega) _).most hT3 (by omega)).other (by simp <;> omega) _, (((hZ.most hT2 (by omega)).other (by simp <;> omega) _).most hT3 (by omega)).other (by simp <;> omega) _, hD5, by rw [hs2.out]; exact hM3.other (by simp <;> omega) _, ?_⟩
          have b2 := (hB.trans (hT2.below hsz (by omega))).setCell (p := ⟨(w.heap.size + 4), 1 + k, none⟩) (by simp <;> omega) (.int .u8 E)
          exact (b2.trans (hT3.below b2.size (by omega))).setCell (by simp <;> omega) _
        case measure => simp [intOf]; omega
      · have hk2 : k = n.toNat := by omega
        subst hk2
        clear hFol hE
        rw [hPR.out] at hD
        rw [hME.out] at hM
        have hD := Lib.hid hD
        have hM := Lib.hid hM
        have hOO := Lib.hid hO
        have hPP := Lib.hid hP
        have hZZ := Lib.hid hZ
        have hBB := Lib.hid hB
        clear hO hP hZ hB
        go_wp2
        clear hk
        go_loopw [14, 15] (fun l i wx => ∃ k : Nat, k ≤ n ∧ i = .int .i64 k ∧ l = .int .i64 (lps (vD n (mate ds)) (mate es) M k).2 ∧ Own wx w.heap.size (dcells n ds) 53 ∧ Own wx (w.heap.size + 1) (dcells n es) 53 ∧ Own wx (w.heap.size + 2) zcells 53 ∧ Own wx (w.heap.size + 4) (dcells n pr) 53 ∧ Own wx (w.heap.size + 3) (bcells (lps (vD n (mate ds)) (mate es) M k).1) 118 ∧ Below w.heap.size w wx) (fun _ i _ => (n - intOf i).toNat)
        case atStart => exact ⟨0, by omega, rfl, rfl, hOO.out, hPP.out, hZZ.out, hD.out, hM.out, hBB.out⟩
        case round =>
          clear hOO hPP hZZ hD hM hBB
          obtain ⟨k, hk, rfl, rfl, hO, hP, hZ, hD, hM, hB⟩ := hrel
          have hkl := lps_len (vD n (mate ds)) (mate es) M k
          rw [hla.out] at hkl
          have hkb := lps_bd (vD n (mate ds)) (mate es) M k
          have hfr := Lib.hid (hSw.out k hk)
          by_cases hlt : (k : Int) < n
          · have k1 := hM.cell k
            rw [bcells_get _ _ (by rw [hkl]; omega)] at k1
            obtain ⟨b, hbq⟩ : ∃ b, (lps (vD n (mate ds)) (mate es) M k).1.getD k true = b := ⟨_, rfl⟩
            rw [hbq] at k1
            have hk8 : (k : Int) < 8 := by omega
            cases b with
            | true =>
              have e1 := Lib.hid (show lps (vD n (mate ds)) (mate es) M (k + 1) = lps (vD n (mate ds)) (mate es) M k by rw [lps, if_pos hbq])
              clear hbq
              go_wp2
              go_roundw
              case rel => exact ⟨k + 1, by omega, by go_num, by rw [e1.out], hO, hP, hZ, hD, by rw [e1.out]; exact hM, hB⟩
              case measure => simp [intOf]; omega
            | false =>
              have e1 := Lib.hid (show lps (vD n (mate ds)) (mate es) M (k + 1) = (mk (vD n (mate ds)) (mate es) 8 k (lps (vD n (mate ds)) (mate es) M k).1, (lps (vD n (mate ds)) (mate es) M k).2 + 1) by rw [lps, if_neg (by rw [hbq]; simp)])
              have hQ := Lib.hid (show ¬ On (lps (vD n (mate ds)) (mate es) M k).1 k by unfold On; rw [show ((k : Int)).toNat = k by omega, hbq]; simp)
              generalize (lps (vD n (mate ds)) (mate es) M k).2 = c at hkb e1 ⊢
              generalize (lps (vD n (mate ds)) (mate es) M k).1 = mb0 at hkl e1 hM hfr hbq hQ
              have HU := Lib.hid hfr.out.1
              have HV := Lib.hid hfr.out.2
              have HW := Lib.hid (way_start (n := n) (u := vD n (mate ds)) (v := mate es) hQ.out)
              have hcM := Lib.hid (show mb0.count false ≤ 8 by rw [← hkl]; exact List.count_le_length)
              have hml := Lib.hid hkl
              clear hfr hbq hkl
              have hOO := Lib.hid hO
              have hPP := Lib.hid hP
              have hZZ := Lib.hid hZ
              have hBB := Lib.hid hB
              have hDD := Lib.hid hD
              have hMM := Lib.hid hM
              clear hO hP hZ hB hD hM
              go_wp2
              go_loopg [16] 8 (fun f p wy => ∃ (r : Int) (mb : List Bool), p = .int .i64 r ∧ Hid (LoopM.Way n mb0 (vD n (mate ds)) (mate es) k mb r) ∧ Hid (mb.count false ≤ f) ∧ Hid (lps (vD n (mate ds)) (mate es) M (k + 1) = (mk (vD n (mate ds)) (mate es) f r mb, c + 1)) ∧ Own wy w.heap.size (dcells n ds) 53 ∧ Own wy (w.heap.size + 1) (dcells n es) 53 ∧ Own wy (w.heap.size + 2) zcells 53 ∧ Own wy (w.heap.size + 4) (dcells n pr) 53 ∧ Own wy (w.heap.size + 3) (bcells mb) 118 ∧ Below w.heap.size w wy)
              case atStart => exact ⟨k, mb0, rfl, HW, hcM, e1, hOO.out, hPP.out, hZZ.out, hDD.out, hMM.out, hBB.out⟩
              case round =>
                clear hOO hPP hZZ hDD hMM hBB k1
                obtain ⟨r, mb, rfl, hW, hcnt, hmk, hO, hP, hZ, hD, hM, hB⟩ := hrel
                obtain ⟨r0, r2, rm⟩ := rch_bd HU.out HV.out (by omega) hlt hQ.out hW.out.rch
                have hl8 : mb.length = 8 := by rw [hW.out.len]; exact hml.out
                have j1 := hM.cell r.toNat
                rw [bcells_get _ _ (by omega)] at j1
                obtain ⟨b, hb⟩ : ∃ b, mb.getD r.toNat true = b := ⟨_, rfl⟩
                rw [hb] at j1
                have r8 : r < 8 := by omega
                cases b with
                | true =>
                  have e3 := Lib.hid (show lps (vD n (mate ds)) (mate es) M (k + 1) = (mb, c + 1) by rw [hmk.out, mk_met hb])
                  clear rm hb hl8 hW hcnt hmk e1
                  go_wp2
                  go_roundw
                  case rel => exact ⟨k + 1, by omega, by go_num, by rw [e3.out], hO, hP, hZ, hD, by rw [e3.out]; exact hM, hB⟩
                  case measure => simp [intOf]; omega
                | false =>
                  obtain ⟨f', hf⟩ : ∃ f', gk = f' + 1 := ⟨gk - 1, by have := cnt_lt mb r.toNat hb; have := hcnt.out; omega⟩
                  subst hf
                  have hWs := Lib.hid (way_step (by have := hml.out; omega) HU.out HV.out (by omega) hlt hQ.out hW.out (off_of hb))
                  have ub := HU.out.bd r r0 r2 rm
                  have uo := HU.out.off r r0 r2 rm
                  have vb := HV.out.bd _ ub.1 ub.2 uo
                  have hk2 := Lib.hid (show lps (vD n (mate ds)) (mate es) M (k + 1) = (mk (vD n (mate ds)) (mate es) f' (mate es (vD n (mate ds) r)) ((mb.set r.toNat true).set (vD n (mate ds) r).toNat true), c + 1) by rw [hmk.out, mk_next hb])
                  have hcnt2 := Lib.hid (show ((mb.set r.toNat true).set (vD n (mate ds) r).toNat true).count false ≤ f' by
                    have x1 := cnt_lt mb r.toNat hb
                    have x2 := cnt_le (mb.set r.toNat true) (vD n (mate ds) r).toNat
                    have := hcnt.out
                    omega)
                  obtain ⟨p, hp⟩ : ∃ p, mate ds (n + r) = p := ⟨_, rfl⟩
                  obtain ⟨m, hm⟩ : ∃ m, vD n (mate ds) r = m := ⟨_, rfl⟩
                  have hpm : p = m + n := by rw [← hm, ← hp]; unfold vD; omega
                  rw [hm] at hWs ub uo vb hk2 hcnt2
                  obtain ⟨s, hs⟩ : ∃ s, mate es m = s := ⟨_, rfl⟩
                  rw [hs] at hWs vb hk2
                  obtain ⟨m0, m2⟩ := ub
                  obtain ⟨v0, v2⟩ := vb
                  have m8 : m < 8 := by omega
                  have p0 : 0 ≤ p := by omega
                  have p16 : p < 16 := by omega
                  have f1 := hM.free r.toNat
                  have f2 := hM.free m.toNat
                  have d1 : (wr.setCell ⟨(w.heap.size + 3), r.toNat, none⟩ (.bool true)).cell? ⟨w.heap.size, 1 + (n + r).toNat, none⟩ = some (.int .u8 p) := by
                    rw [(hO.other (a := ⟨(w.heap.size + 3), r.toNat, none⟩) (by simp <;> omega) (.bool true)).cell, dcells_get _ _ _ (by rw [hld.out]; omega)]; unfold mate at hp; rw [hp]
                  have c3 : (wr.setCell ⟨(w.heap.size + 3), r.toNat, none⟩ (.bool true)).cell? ⟨(w.heap.size + 3), m.toNat, none⟩ = some (.bool ((mb.set r.toNat true).getD m.toNat true)) := by
                    rw [(hM.set _ _).cell, bcells_set, bcells_get _ _ (by rw [List.length_set]; omega)]
                  have hM2 := (hM.set r.toNat (.bool true)).set m.toNat (.bool true)
                  rw [bcells_set, bcells_set] at hM2
                  have hO2 := (hO.other (a := ⟨(w.heap.size + 3), r.toNat, none⟩) (by simp <;> omega) (.bool true)).other (a := ⟨(w.heap.size + 3), m.toNat, none⟩) (by simp <;> omega) (.bool true)
                  have hP2 := (hP.other (a := ⟨(w.heap.size + 3), r.toNat, none⟩) (by simp <;> omega) (.bool true)).other (a := ⟨(w.heap.size + 3), m.toNat, none⟩) (by simp <;> omega) (.bool true)
                  have hZ2 := (hZ.other (a := ⟨(w.heap.size + 3), r.toNat, none⟩) (by simp <;> omega) (.bool true)).other (a := ⟨(w.heap.size + 3), m.toNat, none⟩) (by simp <;> omega) (.bool true)
                  have hD2 := (hD.other (a := ⟨(w.heap.size + 3), r.toNat, none⟩) (by simp <;> omega) (.bool true)).other (a := ⟨(w.heap.size + 3), m.toNat, none⟩) (by simp <;> omega) (.bool true)
                  have hB2 := (hB.setCell (p := ⟨(w.heap.size + 3), r.toNat, none⟩) (by simp <;> omega) (.bool true)).setCell (p := ⟨(w.heap.size + 3), m.toNat, none⟩) (by simp <;> omega) (.bool true)
                  have d2 : ((wr.setCell ⟨(w.heap.size + 3), r.toNat, none⟩ (.bool true)).setCell ⟨(w.heap.size + 3), m.toNat, none⟩ (.bool true)).cell? ⟨w.heap.size + 1, 1 + m.toNat, none⟩ = some (.int .u8 s) := by
                    rw [hP2.cell, dcells_get _ _ _ (by rw [hle.out]; omega)]; unfold mate at hs; rw [hs]
                  have K1 := Lib.hid hM2
                  have K2 := Lib.hid hO2
                  have K3 := Lib.hid hB2
                  have K4 := Lib.hid hP2
                  have K5 := Lib.hid hZ2
                  have K6 := Lib.hid hD2
                  clear hM2 hO2 hB2 hP2 hZ2 hD2 hW hcnt hmk hO hP hM hB hZ hD rm uo hm hp hs hb
                  subst hpm
                  go_wp2
                  go_roundg f'
                  case measure => omega
                  case rel => exact ⟨_, _, rfl, hWs, hcnt2, hk2, K2.out, K4.out, K5.out, K6.out, K1.out, K3.out⟩
          · have e : (lps (vD n (mate ds)) (mate es) M k).2 = lc := by rw [show k = n.toNat by omega]; exact hLC.out
            rw [e] at hkb ⊢
            have hsz := hB.size
            clear hSw hfr hM hO hP e
            go_wp2_with (first
              | (refine wpList_load_row rfl 53 _ rfl _ rfl 53 _ (0, 0) _ (hD) Try.underlying53 rfl (row26 (d17 _ _ (hlp.out))) ?_)
              | (refine wpList_store_own rfl 53 _ _ rfl _ _ rfl rfl 53 _ (hZ) (row26 (d17 _ _ (hlp.out))) (z_eq (d17 _ _ hlp.out)) (dcells_one _ _) ?_; intro w3 hO3 hN3))
            refine bodyPost_ret (v := .tuple #[.agg (dcells n pr), .int .i64 lc]) (results_row_tmp rfl _ _ _ _ _ (0, 0) _ rfl (hO3) Try.underlying53 rfl (row26 (d17 _ _ (hlp.out))) _ rfl) rfl (⟨rfl, ?_⟩)
            exact hB.trans (hN3.below.mono (by omega))
  · have hOa : Own ((((((w.alloc (.cells (dcells n ds) 53)).alloc (.cells (dcells n es) 53)).alloc (.cells zcells 53)).alloc (.cells (dcells n zeros) 53)).alloc (.cells (bcells f8) 118)).drew) w.heap.size (dcells n ds) 53 := Own.alloc (Own.alloc (Own.alloc (Own.alloc (Own.new _ _ _) _) _) _) _
    have hPa : Own ((((((w.alloc (.cells (dcells n ds) 53)).alloc (.cells (dcells n es) 53)).alloc (.cells zcells 53)).alloc (.cells (dcells n zeros) 53)).alloc (.cells (bcells f8) 118)).drew) (w.heap.size + 1) (dcells n es) 53 := Own.alloc (Own.alloc (Own.alloc (Own.at _ _ _ (by simp)) _) _) _
    have hZa : Own ((((((w.alloc (.cells (dcells n ds) 53)).alloc (.cells (dcells n es) 53)).alloc (.cells zcells 53)).alloc (.cells (dcells n zeros) 53)).alloc (.cells (bcells f8) 118)).drew) (w.heap.size + 2) zcells 53 := Own.alloc (Own.alloc (Own.at _ _ _ (by simp)) _) _
    have hMa : Own ((((((w.alloc (.cells (dcells n ds) 53)).alloc (.cells (dcells n es) 53)).alloc (.cells zcells 53)).alloc (.cells (dcells n zeros) 53)).alloc (.cells (bcells f8) 118)).drew) (w.heap.size + 4) (bcells f8) 118 := Own.at _ _ _ (by simp)
    have hDa : Own ((((((w.alloc (.cells (dcells n ds) 53)).alloc (.cells (dcells n es) 53)).alloc (.cells zcells 53)).alloc (.cells (dcells n zeros) 53)).alloc (.cells (bcells f8) 118)).drew) (w.heap.size + 3) (dcells n zeros) 53 := Own.alloc (Own.at _ _ _ (by simp)) _
    have hBa : Below w.heap.size w ((((((w.alloc (.cells (dcells n ds) 53)).alloc (.cells (dcells n es) 53)).alloc (.cells zcells 53)).alloc (.cells (dcells n zeros) 53)).alloc (.cells (bcells f8) 118)).drew) := ((((((Below.refl _ _).alloc (Nat.le_refl _) _).alloc (by simp) _).alloc (by simp; omega) _).alloc (by simp; omega) _).alloc (by simp; omega) _).drew
    change Exit.then _ _ _ _ ((((((w.alloc (.cells (dcells n ds) 53)).alloc (.cells (dcells n es) 53)).alloc (.cells zcells 53)).alloc (.cells (dcells n zeros) 53)).alloc (.cells (bcells f8) 118)).drew)
    generalize (((((w.alloc (.cells (dcells n ds) 53)).alloc (.cells (dcells n es) 53)).alloc (.cells zcells 53)).alloc (.cells (dcells n zeros) 53)).alloc (.cells (bcells f8) 118)).drew = wa at *
    go_wp2
    go_loopw [9] (fun i wr => ∃ k : Nat, k ≤ n ∧ i = .int .i64 k ∧ Own wr w.heap.size (dcells n ds) 53 ∧ Own wr (w.heap.size + 1) (dcells n es) 53 ∧ Own wr (w.heap.size + 2) zcells 53 ∧ Own wr (w.heap.size + 3) (dcells n (prS n (mate ds) (mate es) k)) 53 ∧ Own wr (w.heap.size + 4) (bcells (metS n (mate ds) (mate es) k)) 118 ∧ Below w.heap.size w wr) (fun i _ => (n - intOf i).toNat)
    case atStart => exact ⟨0, by omega, rfl, hOa, hPa, hZa, hDa, hMa, hBa⟩
    case round =>
      clear hOa hPa hZa hDa hMa hBa
      obtain ⟨k, hk, rfl, hO, hP, hZ, hD, hM, hB⟩ := hrel
      by_cases hlt : (k : Int) < n
      · have hl1 := prS_len n (mate ds) (mate es) k
        have hl2 := metS_len n (mate ds) (mate es) k
        have hs1 := Lib.hid (show prS n (mate ds) (mate es) (k + 1) = ((prS n (mate ds) (mate es) k).set k (eP n (mate ds) (mate es) k)).set (n + k).toNat (eP n (mate ds) (mate es) (n + k)) from rfl)
        have hs2 := Lib.hid (show metS n (mate ds) (mate es) (k + 1) = mark (lP n (mate ds) (mate es) (n + k)) (mark (lP n (mate ds) (mate es) k) (metS n (mate ds) (mate es) k)) from rfl)
        have hc1 := hFol.out _ hl2 (w.heap.size + 4) k (by omega) (by omega) wr hM
        rw [show decide ((k : Int) < n) = true by simp [hlt]] at hc1
        have hc2 := fun mb hmb g w hg => hFol.out mb hmb g (n + k) (by omega) (by omega) w hg
        rw [show decide (n + (k : Int) < n) = false by simp <;> omega] at hc2
        have eb1 := hE.out k (by omega) (by omega)
        have eb2 := hE.out (n + k) (by omega) (by omega)
        have hl3 := Lib.hid (show (mark (lP n (mate ds) (mate es) k) (metS n (mate ds) (mate es) k)).length = 8 by rw [mark_len]; exact hl2)
        have hcall1 := Lib.hid hc1
        have hcall2 := Lib.hid hc2
        clear hc1 hc2
        obtain ⟨E, hEe⟩ : ∃ E, eP n (mate ds) (mate es) k = E := ⟨_, rfl⟩
        obtain ⟨F, hFe⟩ : ∃ F, eP n (mate ds) (mate es) (n + k) = F := ⟨_, rfl⟩
        rw [hEe] at hs1 hcall1 eb1
        rw [hFe] at hs1 hcall2 eb2
        obtain ⟨E0, E2⟩ := eb1
        obtain ⟨F0, F2⟩ := eb2
        have hk8 : (k : Int) < 8 := by omega
        have e16 : E < 16 := by omega
        have f16 : F < 16 := by omega
        generalize prS n (mate ds) (mate es) k = pl at hD hl1 hs1
        generalize mark (lP n (mate ds) (mate es) k) (metS n (mate ds) (mate es) k) = ml at hs2 hcall1 hl3
        clear hEe hFe hl2
        have hsz := hB.size
        have hl1' := Lib.hid hl1
        clear hl1 hM
        go_wp2_with (first
          | (refine wpList_load_row rfl 53 _ rfl _ rfl 53 _ (0, 0) _ (hO) Try.underlying53 rfl (row26 (d17 _ _ (hld.out))) ?_)
          | (refine wpList_load_row rfl 53 _ rfl _ rfl 53 _ (0, 0) _ (hP) Try.underlying53 rfl (row26 (d17 _ _ (hle.out))) ?_)
          | (refine wpList_load_row rfl 53 _ rfl _ rfl 53 _ (0, 0) _ ((hO.most hT2 (by omega)).other (by simp <;> omega) _) Try.underlying53 rfl (row26 (d17 _ _ (hld.out))) ?_)
          | (refine wpList_load_row rfl 53 _ rfl _ rfl 53 _ (0, 0) _ ((hP.most hT2 (by omega)).other (by simp <;> omega) _) Try.underlying53 rfl (row26 (d17 _ _ (hle.out))) ?_)
          | ((go_at_call 105; ((with_reducible refine (hcall1.out).mono ?_); rintro e w2 ⟨⟨b, rfl⟩, hM2, hT2⟩)); have hD2 := hD.most hT2 (by omega); have c2 := hD2.cell (1 + k); rw [dcells_get _ _ _ (by rw [hl1'.out]; omega)] at c2; have f2 := hD2.free (1 + k); have hD3 := Lib.hid (show Own _ _ _ _ by have h := hD2.set (1 + k) (.int .u8 E); rw [dcells_set] at h; exact h))
          | ((go_at_call 105; ((with_reducible refine (hcall2.out _ hl3.out _ _ (hM2.other (by simp <;> omega) _)).mono ?_); rintro e w3 ⟨⟨b3, rfl⟩, hM3, hT3⟩)); have hD4 := hD3.out.most hT3 (by omega); have c3 := hD4.cell (1 + (n + k).toNat); rw [dcells_get _ _ _ (by rw [List.length_set, hl1'.out]; omega)] at c3; have f3 := hD4.free (1 + (n + k).toNat)))
        go_roundw
        case rel =>
          have hD5 := hD4.set (1 + (n + k).toNat) (.int .u8 F)
          rw [dcells_set, ← hs1.out] at hD5
          refine ⟨k + 1, by omega, by go_num, (((hO.most hT2 (by omega)).other (by simp <;> omega) _).most hT3 (by omega)).other (by simp <;> omega) _, (((hP.most hT2 (by omega)).other (by simp <;> omega) _).most hT3 (by omega)).other (by simp <;> omega) _, (((hZ.most hT2 (by omega)).other (by simp <;> omega) _).most hT3 (by omega)).other (by simp <;> omega) _, hD5, by rw [hs2.out]; exact hM3.other (by simp <;> omega) _, ?_⟩
          have b2 := (hB.trans (hT2.below hsz (by omega))).setCell (p := ⟨(w.heap.size + 3), 1 + k, none⟩) (by simp <;> omega) (.int .u8 E)
          exact (b2.trans (hT3.below b2.size (by omega))).setCell (by simp <;> omega) _
        case measure => simp [intOf]; omega
      · have hk2 : k = n.toNat := by omega
        subst hk2
        clear hFol hE
        rw [hPR.out] at hD
        rw [hME.out] at hM
        have hD := Lib.hid hD
        have hM := Lib.hid hM
        have hOO := Lib.hid hO
        have hPP := Lib.hid hP
        have hZZ := Lib.hid hZ
        have hBB := Lib.hid hB
        clear hO hP hZ hB
        go_wp2
        clear hk
        go_loopw [14, 15] (fun l i wx => ∃ k : Nat, k ≤ n ∧ i = .int .i64 k ∧ l = .int .i64 (lps (vD n (mate ds)) (mate es) M k).2 ∧ Own wx w.heap.size (dcells n ds) 53 ∧ Own wx (w.heap.size + 1) (dcells n es) 53 ∧ Own wx (w.heap.size + 2) zcells 53 ∧ Own wx (w.heap.size + 3) (dcells n pr) 53 ∧ Own wx (w.heap.size + 4) (bcells (lps (vD n (mate ds)) (mate es) M k).1) 118 ∧ Below w.heap.size w wx) (fun _ i _ => (n - intOf i).toNat)
        case atStart => exact ⟨0, by omega, rfl, rfl, hOO.out, hPP.out, hZZ.out, hD.out, hM.out, hBB.out⟩
        case round =>
          clear hOO hPP hZZ hD hM hBB
          obtain ⟨k, hk, rfl, rfl, hO, hP, hZ, hD, hM, hB⟩ := hrel
          have hkl := lps_len (vD n (mate ds)) (mate es) M k
          rw [hla.out] at hkl
          have hkb := lps_bd (vD n (mate ds)) (mate es) M k
          have hfr := Lib.hid (hSw.out k hk)
          by_cases hlt : (k : Int) < n
          · have k1 := hM.cell k
            rw [bcells_get _ _ (by rw [hkl]; omega)] at k1
            obtain ⟨b, hbq⟩ : ∃ b, (lps (vD n (mate ds)) (mate es) M k).1.getD k true = b := ⟨_, rfl⟩
            rw [hbq] at k1
            have hk8 : (k : Int) < 8 := by omega
            cases b with
            | true =>
              have e1 := Lib.hid (show lps (vD n (mate ds)) (mate es) M (k + 1) = lps (vD n (mate ds)) (mate es) M k by rw [lps, if_pos hbq])
              clear hbq
              go_wp2
              go_roundw
              case rel => exact ⟨k + 1, by omega, by go_num, by rw [e1.out], hO, hP, hZ, hD, by rw [e1.out]; exact hM, hB⟩
              case measure => simp [intOf]; omega
            | false =>
              have e1 := Lib.hid (show lps (vD n (mate ds)) (mate es) M (k + 1) = (mk (vD n (mate ds)) (mate es) 8 k (lps (vD n (mate ds)) (mate es) M k).1, (lps (vD n (mate ds)) (mate es) M k).2 + 1) by rw [lps, if_neg (by rw [hbq]; simp)])
              have hQ := Lib.hid (show ¬ On (lps (vD n (mate ds)) (mate es) M k).1 k by unfold On; rw [show ((k : Int)).toNat = k by omega, hbq]; simp)
              generalize (lps (vD n (mate ds)) (mate es) M k).2 = c at hkb e1 ⊢
              generalize (lps (vD n (mate ds)) (mate es) M k).1 = mb0 at hkl e1 hM hfr hbq hQ
              have HU := Lib.hid hfr.out.1
              have HV := Lib.hid hfr.out.2
              have HW := Lib.hid (way_start (n := n) (u := vD n (mate ds)) (v := mate es) hQ.out)
              have hcM := Lib.hid (show mb0.count false ≤ 8 by rw [← hkl]; exact List.count_le_length)
              have hml := Lib.hid hkl
              clear hfr hbq hkl
              have hOO := Lib.hid hO
              have hPP := Lib.hid hP
              have hZZ := Lib.hid hZ
              have hBB := Lib.hid hB
              have hDD := Lib.hid hD
              have hMM := Lib.hid hM
              clear hO hP hZ hB hD hM
              go_wp2
              go_loopg [16] 8 (fun f p wy => ∃ (r : Int) (mb : List Bool), p = .int .i64 r ∧ Hid (LoopM.Way n mb0 (vD n (mate ds)) (mate es) k mb r) ∧ Hid (mb.count false ≤ f) ∧ Hid (lps (vD n (mate ds)) (mate es) M (k + 1) = (mk (vD n (mate ds)) (mate es) f r mb, c + 1)) ∧ Own wy w.heap.size (dcells n ds) 53 ∧ Own wy (w.heap.size + 1) (dcells n es) 53 ∧ Own wy (w.heap.size + 2) zcells 53 ∧ Own wy (w.heap.size + 3) (dcells n pr) 53 ∧ Own wy (w.heap.size + 4) (bcells mb) 118 ∧ Below w.heap.size w wy)
              case atStart => exact ⟨k, mb0, rfl, HW, hcM, e1, hOO.out, hPP.out, hZZ.out, hDD.out, hMM.out, hBB.out⟩
              case round =>
                clear hOO hPP hZZ hDD hMM hBB k1
                obtain ⟨r, mb, rfl, hW, hcnt, hmk, hO, hP, hZ, hD, hM, hB⟩ := hrel
                obtain ⟨r0, r2, rm⟩ := rch_bd HU.out HV.out (by omega) hlt hQ.out hW.out.rch
                have hl8 : mb.length = 8 := by rw [hW.out.len]; exact hml.out
                have j1 := hM.cell r.toNat
                rw [bcells_get _ _ (by omega)] at j1
                obtain ⟨b, hb⟩ : ∃ b, mb.getD r.toNat true = b := ⟨_, rfl⟩
                rw [hb] at j1
                have r8 : r < 8 := by omega
                cases b with
                | true =>
                  have e3 := Lib.hid (show lps (vD n (mate ds)) (mate es) M (k + 1) = (mb, c + 1) by rw [hmk.out, mk_met hb])
                  clear rm hb hl8 hW hcnt hmk e1
                  go_wp2
                  go_roundw
                  case rel => exact ⟨k + 1, by omega, by go_num, by rw [e3.out], hO, hP, hZ, hD, by rw [e3.out]; exact hM, hB⟩
                  case measure => simp [intOf]; omega
                | false =>
                  obtain ⟨f', hf⟩ : ∃ f', gk = f' + 1 := ⟨gk - 1, by have := cnt_lt mb r.toNat hb; have := hcnt.out; omega⟩
                  subst hf
                  have hWs := Lib.hid (way_step (by have := hml.out; omega) HU.out HV.out (by omega) hlt hQ.out hW.out (off_of hb))
                  have ub := HU.out.bd r r0 r2 rm
                  have uo := HU.out.off r r0 r2 rm
                  have vb := HV.out.bd _ ub.1 ub.2 uo
                  have hk2 := Lib.hid (show lps (vD n (mate ds)) (mate es) M (k + 1) = (mk (vD n (mate ds)) (mate es) f' (mate es (vD n (mate ds) r)) ((mb.set r.toNat true).set (vD n (mate ds) r).toNat true), c + 1) by rw [hmk.out, mk_next hb])
                  have hcnt2 := Lib.hid (show ((mb.set r.toNat true).set (vD n (mate ds) r).toNat true).count false ≤ f' by
                    have x1 := cnt_lt mb r.toNat hb
                    have x2 := cnt_le (mb.set r.toNat true) (vD n (mate ds) r).toNat
                    have := hcnt.out
                    omega)
                  obtain ⟨p, hp⟩ : ∃ p, mate ds (n + r) = p := ⟨_, rfl⟩
                  obtain ⟨m, hm⟩ : ∃ m, vD n (mate ds) r = m := ⟨_, rfl⟩
                  have hpm : p = m + n := by rw [← hm, ← hp]; unfold vD; omega
                  rw [hm] at hWs ub uo vb hk2 hcnt2
                  obtain ⟨s, hs⟩ : ∃ s, mate es m = s := ⟨_, rfl⟩
                  rw [hs] at hWs vb hk2
                  obtain ⟨m0, m2⟩ := ub
                  obtain ⟨v0, v2⟩ := vb
                  have m8 : m < 8 := by omega
                  have p0 : 0 ≤ p := by omega
                  have p16 : p < 16 := by omega
                  have f1 := hM.free r.toNat
                  have f2 := hM.free m.toNat
                  have d1 : (wr.setCell ⟨(w.heap.size + 4), r.toNat, none⟩ (.bool true)).cell? ⟨w.heap.size, 1 + (n + r).toNat, none⟩ = some (.int .u8 p) := by
                    rw [(hO.other (a := ⟨(w.heap.size + 4), r.toNat, none⟩) (by simp <;> omega) (.bool true)).cell, dcells_get _ _ _ (by rw [hld.out]; omega)]; unfold mate at hp; rw [hp]
                  have c3 : (wr.setCell ⟨(w.heap.size + 4), r.toNat, none⟩ (.bool true)).cell? ⟨(w.heap.size + 4), m.toNat, none⟩ = some (.bool ((mb.set r.toNat true).getD m.toNat true)) := by
                    rw [(hM.set _ _).cell, bcells_set, bcells_get _ _ (by rw [List.length_set]; omega)]
                  have hM2 := (hM.set r.toNat (.bool true)).set m.toNat (.bool true)
                  rw [bcells_set, bcells_set] at hM2
                  have hO2 := (hO.other (a := ⟨(w.heap.size + 4), r.toNat, none⟩) (by simp <;> omega) (.bool true)).other (a := ⟨(w.heap.size + 4), m.toNat, none⟩) (by simp <;> omega) (.bool true)
                  have hP2 := (hP.other (a := ⟨(w.heap.size + 4), r.toNat, none⟩) (by simp <;> omega) (.bool true)).other (a := ⟨(w.heap.size + 4), m.toNat, none⟩) (by simp <;> omega) (.bool true)
                  have hZ2 := (hZ.other (a := ⟨(w.heap.size + 4), r.toNat, none⟩) (by simp <;> omega) (.bool true)).other (a := ⟨(w.heap.size + 4), m.toNat, none⟩) (by simp <;> omega) (.bool true)
                  have hD2 := (hD.other (a := ⟨(w.heap.size + 4), r.toNat, none⟩) (by simp <;> omega) (.bool true)).other (a := ⟨(w.heap.size + 4), m.toNat, none⟩) (by simp <;> omega) (.bool true)
                  have hB2 := (hB.setCell (p := ⟨(w.heap.size + 4), r.toNat, none⟩) (by simp <;> omega) (.bool true)).setCell (p := ⟨(w.heap.size + 4), m.toNat, none⟩) (by simp <;> omega) (.bool true)
                  have d2 : ((wr.setCell ⟨(w.heap.size + 4), r.toNat, none⟩ (.bool true)).setCell ⟨(w.heap.size + 4), m.toNat, none⟩ (.bool true)).cell? ⟨w.heap.size + 1, 1 + m.toNat, none⟩ = some (.int .u8 s) := by
                    rw [hP2.cell, dcells_get _ _ _ (by rw [hle.out]; omega)]; unfold mate at hs; rw [hs]
                  have K1 := Lib.hid hM2
                  have K2 := Lib.hid hO2
                  have K3 := Lib.hid hB2
                  have K4 := Lib.hid hP2
                  have K5 := Lib.hid hZ2
                  have K6 := Lib.hid hD2
                  clear hM2 hO2 hB2 hP2 hZ2 hD2 hW hcnt hmk hO hP hM hB hZ hD rm uo hm hp hs hb
                  subst hpm
                  go_wp2
                  go_roundg f'
                  case measure => omega
                  case rel => exact ⟨_, _, rfl, hWs, hcnt2, hk2, K2.out, K4.out, K5.out, K6.out, K1.out, K3.out⟩
          · have e : (lps (vD n (mate ds)) (mate es) M k).2 = lc := by rw [show k = n.toNat by omega]; exact hLC.out
            rw [e] at hkb ⊢
            have hsz := hB.size
            clear hSw hfr hM hO hP e
            go_wp2_with (first
              | (refine wpList_load_row rfl 53 _ rfl _ rfl 53 _ (0, 0) _ (hD) Try.underlying53 rfl (row26 (d17 _ _ (hlp.out))) ?_)
              | (refine wpList_store_own rfl 53 _ _ rfl _ _ rfl rfl 53 _ (hZ) (row26 (d17 _ _ (hlp.out))) (z_eq (d17 _ _ hlp.out)) (dcells_one _ _) ?_; intro w3 hO3 hN3))
            refine bodyPost_ret (v := .tuple #[.agg (dcells n pr), .int .i64 lc]) (results_row_tmp rfl _ _ _ _ _ (0, 0) _ rfl (hO3) Try.underlying53 rfl (row26 (d17 _ _ (hlp.out))) _ rfl) rfl (⟨rfl, ?_⟩)
            exact hB.trans (hN3.below.mono (by omega))
end Go.Proofs.Ytbibmncepjmgcaa
