/- Contract of the program's way along a line of a product. -/
import Derived.Test.YtbikpagoeeelbaaJump
namespace Go.Proofs.Ytbikpagoeeelbaa
open Go.RowKit
set_option maxRecDepth 100000 in
set_option maxHeartbeats 1000000 in
theorem eolI_any (n : Int) (ds es : List Int) (hds : ds.length = 16) (hes : es.length = 16) (hbd : Bytes ds) (hbe : Bytes es) (hd : IsS n ds) (he : IsS n es) (mb0 : List Bool) (hmb : mb0.length = 8) (g : Nat) (q : Int) (q0 : 0 ≤ q) (q2 : q < 2 * n) (w : World) (hg : Own w g (bcells mb0) 78) :
    Calls Try.prog 87 #[.agg (dcells n ds), .agg (dcells n es), .int .i64 q, .pointer (some ⟨g, 0, none⟩)] w fun e w' => e = .returned (.int .i64 (eP n (mate ds) (mate es) q)) ∧ Own w' g (bcells (mark (lP n (mate ds) (mate es) q) mb0)) 78 ∧ Most g w w' := by
  have hld := Lib.hid hds
  have hle := Lib.hid hes
  have hml := Lib.hid hmb
  have Md := Lib.hid (mt_of hbd hd)
  have Me := Lib.hid (mt_of hbe he)
  obtain ⟨h1, h8⟩ := hd.1
  have hF := Lib.hid (fol_p (mt_of hbd hd) (mt_of hbe he) h1 h8 q0 q2)
  obtain ⟨E, hE⟩ : ∃ E, eP n (mate ds) (mate es) q = E := ⟨_, rfl⟩
  obtain ⟨L0, hL0⟩ : ∃ L0, lP n (mate ds) (mate es) q = L0 := ⟨_, rfl⟩
  obtain ⟨mbE, hmE⟩ : ∃ mbE, mark L0 mb0 = mbE := ⟨_, rfl⟩
  rw [hE, hL0] at hF ⊢
  rw [hmE]
  have hM0 := Lib.hid hmE
  have glt := hg.lt
  have c0 := dcells_zero n ds
  clear hds hes hbd hbe hd he hmb hE hL0 hmE
  go_enter Try.func87, Try.ntmps87
  go_wp2
  refine wp_scope_jumpsG (fun l f a' w' => ∃ (p : Int) (mb : List Bool) (L : List Int) (u10 u11 u12 u13 u14 u15 u16 u17 u18 u19 u20 u21 u22 u23 u24 u25 u26 u27 u28 u29 u30 u31 u32 u33 u34 u35 u36 u37 u38 u39 u40 u41 u42 u43 u44 u45 u46 : Value), a' = { tmps := #[.agg (dcells n ds), .agg (dcells n es), .int .i64 p, .pointer (some ⟨g, 0, none⟩), .pointer (some ⟨w.heap.size, 0, none⟩), .pointer (some ⟨w.heap.size + 1, 0, none⟩), undef, undef, .int .i64 0, .int .i64 n, u10, u11, u12, u13, u14, u15, u16, u17, u18, u19, u20, u21, u22, u23, u24, u25, u26, u27, u28, u29, u30, u31, u32, u33, u34, u35, u36, u37, u38, u39, u40, u41, u42, u43, u44, u45, u46], defers := [] } ∧ (l = 0 ∨ l = 1) ∧ 0 ≤ p ∧ p < 2 * n ∧ Hid (mb.length = 8) ∧ Hid (fol n (mate ds) (mate es) f (decide (l = 1)) p = some (E, L)) ∧ Hid (mark L mb = mbE) ∧ Own w' w.heap.size (dcells n ds) 43 ∧ Own w' (w.heap.size + 1) (dcells n es) 43 ∧ Own w' g (bcells mb) 78 ∧ Most g w w') ?_ ?_
  · rintro l f a' wx ⟨p, mb, L, u10, u11, u12, u13, u14, u15, u16, u17, u18, u19, u20, u21, u22, u23, u24, u25, u26, u27, u28, u29, u30, u31, u32, u33, u34, u35, u36, u37, u38, u39, u40, u41, u42, u43, u44, u45, u46, rfl, hl, p0, p2, hmb, hfol, hmark, hO, hP, hM, hB⟩ Jh hJ
    rcases hl with rfl | rfl
    · refine ⟨_, rfl, ?_⟩
      obtain ⟨f', hff, hcase⟩ := fol_f hfol.out
      subst hff
      have eb := Me.out.lt p p0 p2
      obtain ⟨m, hm⟩ : ∃ m, mate es p = m := ⟨_, rfl⟩
      have c1 : wx.cell? ⟨w.heap.size + 1, 1 + p.toNat, none⟩ = some (.int .u8 m) := by rw [hP.cell, dcells_get _ _ _ (by rw [hle.out]; omega)]; unfold mate at hm; rw [hm]
      rw [hm] at hcase eb
      obtain ⟨m0, m2⟩ := eb
      have p16 : p < 16 := by omega
      rcases hcase with ⟨hmn, rfl, rfl⟩ | ⟨hmn, L', rfl, hfol'⟩
      · have hR := Lib.hid (show Own wx g (bcells mbE) 78 by rw [← hmark.out]; exact hM)
        have hBB := Lib.hid hB
        clear hfol hmark hO hP hM hB hm
        go_wp2
        rw [Exit.jumpG_ret]
        go_ret
        exact ⟨rfl, hR.out, hBB.out⟩
      · have f1 := hM.free m.toNat
        have c2 := hM.cell m.toNat
        rw [bcells_get _ _ (by rw [hmb.out]; omega)] at c2
        have hM2 := hM.set m.toNat (.bool true)
        rw [bcells_set] at hM2
        have k1 := Lib.hid hM2
        have k2 := Lib.hid (hO.other (a := ⟨g, m.toNat, none⟩) (by simp; omega) (.bool true))
        have k3 := Lib.hid (hP.other (a := ⟨g, m.toNat, none⟩) (by simp; omega) (.bool true))
        have k4 := Lib.hid (hB.setCell m.toNat (.bool true))
        have k5 := Lib.hid hfol'
        have k6 := Lib.hid (show mark L' (mb.set m.toNat true) = mbE by rw [← hmark.out]; rfl)
        have k7 := Lib.hid (show (mb.set m.toNat true).length = 8 by rw [List.length_set]; exact hmb.out)
        have m8 : m < 8 := by omega
        clear hfol hmark hO hP hM hM2 hB hm hfol'
        go_wp2
        go_step3
        rw [Exit.jumpG_goto]
        refine hJ _ f' _ _ (by omega) ?_
        rw [show m + n = n + m by omega]
        exact ⟨n + m, mb.set m.toNat true, L', _, _, _, _, _, _, _, _, _, _, _, _, _, _, _, _, _, _, _, _, _, _, _, _, _, _, _, _, _, _, _, _, _, _, _, _, _, rfl, .inr rfl, by omega, by omega, k7, k5, k6, k2.out, k3.out, k1.out, k4.out⟩
    · refine ⟨_, rfl, ?_⟩
      obtain ⟨f', hff, hcase⟩ := fol_t hfol.out
      subst hff
      have db := Md.out.lt p p0 p2
      obtain ⟨m, hm⟩ : ∃ m, mate ds p = m := ⟨_, rfl⟩
      have c1 : wx.cell? ⟨w.heap.size, 1 + p.toNat, none⟩ = some (.int .u8 m) := by rw [hO.cell, dcells_get _ _ _ (by rw [hld.out]; omega)]; unfold mate at hm; rw [hm]
      rw [hm] at hcase db
      obtain ⟨m0, m2⟩ := db
      have p16 : p < 16 := by omega
      rcases hcase with ⟨hmn, rfl, rfl⟩ | ⟨hmn, L', rfl, hfol'⟩
      · have hR := Lib.hid (show Own wx g (bcells mbE) 78 by rw [← hmark.out]; exact hM)
        have hBB := Lib.hid hB
        clear hfol hmark hO hP hM hB hm
        go_wp2
        rw [Exit.jumpG_ret]
        go_ret
        exact ⟨rfl, hR.out, hBB.out⟩
      · have f1 := hM.free (m - n).toNat
        have c2 := hM.cell (m - n).toNat
        rw [bcells_get _ _ (by rw [hmb.out]; omega)] at c2
        have hM2 := hM.set (m - n).toNat (.bool true)
        rw [bcells_set] at hM2
        have k1 := Lib.hid hM2
        have k2 := Lib.hid (hO.other (a := ⟨g, (m - n).toNat, none⟩) (by simp; omega) (.bool true))
        have k3 := Lib.hid (hP.other (a := ⟨g, (m - n).toNat, none⟩) (by simp; omega) (.bool true))
        have k4 := Lib.hid (hB.setCell (m - n).toNat (.bool true))
        have k5 := Lib.hid hfol'
        have k6 := Lib.hid (show mark L' (mb.set (m - n).toNat true) = mbE by rw [← hmark.out]; rfl)
        have k7 := Lib.hid (show (mb.set (m - n).toNat true).length = 8 by rw [List.length_set]; exact hmb.out)
        have m8 : m - n < 8 := by omega
        clear hfol hmark hO hP hM hM2 hB hm hfol'
        obtain ⟨p', hp'⟩ : ∃ p', m - n = p' := ⟨_, rfl⟩
        rw [hp'] at c2 f1 k1 k2 k3 k4 k5 k6 k7 m8
        go_wp2
        go_step3
        generalize wx.setCell ⟨g, p'.toNat, none⟩ (.bool true) = wy at k1 k2 k3 k4 ⊢
        generalize mb.set p'.toNat true = mb1 at k1 k6 k7
        have p0' : 0 ≤ p' := by omega
        have p2' : p' < 2 * n := by omega
        clear c1 c2 f1 m0 m2 hmn hp' p0 p2 p16 hmb m8
        have hfol := k5
        have hmark := k6
        have hmb := k7
        have hO := k2.out
        have hP := k3.out
        have hM := k1.out
        have hB := k4.out
        clear k1 k2 k3 k4 k5 k6 k7
        obtain ⟨f2, hff, hcase⟩ := fol_f hfol.out
        subst hff
        have eb := Me.out.lt p' p0' p2'
        obtain ⟨m, hm⟩ : ∃ m, mate es p' = m := ⟨_, rfl⟩
        have c1 : wy.cell? ⟨w.heap.size + 1, 1 + p'.toNat, none⟩ = some (.int .u8 m) := by rw [hP.cell, dcells_get _ _ _ (by rw [hle.out]; omega)]; unfold mate at hm; rw [hm]
        rw [hm] at hcase eb
        obtain ⟨m0, m2⟩ := eb
        have p16 : p' < 16 := by omega
        rcases hcase with ⟨hmn, rfl, rfl⟩ | ⟨hmn, L', rfl, hfol'⟩
        · have hR := Lib.hid (show Own wy g (bcells mbE) 78 by rw [← hmark.out]; exact hM)
          have hBB := Lib.hid hB
          clear hfol hmark hO hP hM hB hm
          go_wp2
          rw [Exit.jumpG_ret]
          go_ret
          exact ⟨rfl, hR.out, hBB.out⟩
        · have f1 := hM.free m.toNat
          have c2 := hM.cell m.toNat
          rw [bcells_get _ _ (by rw [hmb.out]; omega)] at c2
          have hM2 := hM.set m.toNat (.bool true)
          rw [bcells_set] at hM2
          have k1 := Lib.hid hM2
          have k2 := Lib.hid (hO.other (a := ⟨g, m.toNat, none⟩) (by simp; omega) (.bool true))
          have k3 := Lib.hid (hP.other (a := ⟨g, m.toNat, none⟩) (by simp; omega) (.bool true))
          have k4 := Lib.hid (hB.setCell m.toNat (.bool true))
          have k5 := Lib.hid hfol'
          have k6 := Lib.hid (show mark L' (mb1.set m.toNat true) = mbE by rw [← hmark.out]; rfl)
          have k7 := Lib.hid (show (mb1.set m.toNat true).length = 8 by rw [List.length_set]; exact hmb.out)
          have m8 : m < 8 := by omega
          clear hfol hmark hO hP hM hM2 hB hm hfol'
          go_wp2
          go_step3
          rw [Exit.jumpG_goto]
          refine hJ _ f2 _ _ (by omega) ?_
          rw [show m + n = n + m by omega]
          exact ⟨n + m, mb1.set m.toNat true, L', _, _, _, _, _, _, _, _, _, _, _, _, _, _, _, _, _, _, _, _, _, _, _, _, _, _, _, _, _, _, _, _, _, _, _, _, _, rfl, .inr rfl, by omega, by omega, k7, k5, k6, k2.out, k3.out, k1.out, k4.out⟩
  · intro hpass0 Jh hJ
    have hpass := Lib.hid hpass0
    clear hpass0
    have hO : Own ((w.alloc (.cells (dcells n ds) 43)).alloc (.cells (dcells n es) 43)) w.heap.size (dcells n ds) 43 := Own.alloc (Own.new _ _ _) _
    have hP : Own ((w.alloc (.cells (dcells n ds) 43)).alloc (.cells (dcells n es) 43)) (w.heap.size + 1) (dcells n es) 43 := Own.at _ _ _ (by simp)
    have hM : Own ((w.alloc (.cells (dcells n ds) 43)).alloc (.cells (dcells n es) 43)) g (bcells mb0) 78 := (hg.alloc _).alloc _
    have hB : Most g w ((w.alloc (.cells (dcells n ds) 43)).alloc (.cells (dcells n es) 43)) := ((Most.refl _ _).alloc _).alloc _
    generalize (w.alloc (.cells (dcells n ds) 43)).alloc (.cells (dcells n es) 43) = wx at hO hP hM hB ⊢
    have c1 := hO.cell 0
    rw [dcells_zero] at c1
    clear c0 hg
    by_cases hq : q < n
    · have e1 : decide (q < n) = true := by simp [hq]
      rw [e1] at hF
      have hO := Lib.hid hO
      have hP := Lib.hid hP
      have hM := Lib.hid hM
      have hB := Lib.hid hB
      clear e1
      go_wp2
      go_step3
      go_step
      refine (by assumption : ∀ (a : Act) (w : World), Code.wp _ _ _ a w → _) _ _ ?_
      obtain ⟨X, hr, hw⟩ := hpass.out 1 17 _ _ ⟨q, mb0, L0, _, _, _, _, _, _, _, _, _, _, _, _, _, _, _, _, _, _, _, _, _, _, _, _, _, _, _, _, _, _, _, _, _, _, _, _, _, rfl, .inr rfl, q0, q2, hml, hF, hM0, hO.out, hP.out, hM.out, hB.out⟩ Jh hJ
      have e2 := hr
      injection e2 with e2
      injection e2 with _ e2
      rw [← e2] at hw
      exact hw
    · have e1 : decide (q < n) = false := by simp [hq]
      rw [e1] at hF
      have hO := Lib.hid hO
      have hP := Lib.hid hP
      have hM := Lib.hid hM
      have hB := Lib.hid hB
      clear e1
      go_wp2
      go_step3
      show Jh 0 _ _
      exact hJ 0 17 _ _ ⟨q, mb0, L0, _, _, _, _, _, _, _, _, _, _, _, _, _, _, _, _, _, _, _, _, _, _, _, _, _, _, _, _, _, _, _, _, _, _, _, _, _, rfl, .inl rfl, q0, q2, hml, hF, hM0, hO.out, hP.out, hM.out, hB.out⟩
end Go.Proofs.Ytbikpagoeeelbaa
