/- The contract of the program's product of two partitions. -/
import Derived.Test.YtlgdeciikliihaaPrI
import Derived.Test.YtlgdeciikliihaaOn
namespace Go.Proofs.Ytlgdeciikliihaa
open Go.RowKit
set_option linter.unusedVariables false
set_option maxRecDepth 100000 in
set_option maxHeartbeats 4000000 in
theorem prodPI_nat (N : Nat) (ms es : List Int) (hms : ms.length = 8) (hes : es.length = 8) (hA : Nums ms) (hB0 : Nums es) (w : World) (h1 : 1 ≤ N) (h4 : N ≤ 4) :
    Calls Try.prog 31 #[.agg (dcells N ms), .agg (dcells N es)] w fun e w' => e = .returned (.tuple #[.agg (dcells N (prP N ms es)), .int .i64 (prC N ms es : Nat)]) ∧ Below w.heap.size w w' := by
  have hl := Lib.hid hms
  have hl2 := Lib.hid hes
  have hA' := Lib.hid hA
  have hB' := Lib.hid hB0
  have hjo := Lib.hid (fun (x y : Int) (hx : 0 ≤ x ∧ x < 8) (hy : 0 ≤ y ∧ y < 8) nx R j w1 hF hN => (by
    have := join_nodes (w.heap.size + 1 + 1 + 1) (w.heap.size + 1 + 1 + 1 + 1) nx R j x (8 + y) hx.1 (by omega) (by omega) (by omega) hF w1 hN
    rwa [nd_a _ _ _ hx.2, nd_b _ _ _ hy.1] at this :
    Calls Try.prog 55 #[.pointer (some ⟨w.heap.size + 1 + 1 + 1, x.toNat, none⟩), .pointer (some ⟨w.heap.size + 1 + 1 + 1 + 1, y.toNat, none⟩)] w1 fun e w' => e = .returned (.tuple #[]) ∧ (∃ nx', For nx' (mrgR R x.toNat (8 + y).toNat) (j + 1) ∧ Nod (w.heap.size + 1 + 1 + 1) (w.heap.size + 1 + 1 + 1 + 1) nx' w') ∧ ∀ B, B ≤ w.heap.size + 1 + 1 + 1 → B ≤ w.heap.size + 1 + 1 + 1 + 1 → Below B w1 w'))
  have hwa := Lib.hid (fun (x : Int) (hx : 0 ≤ x ∧ x < 8) nx R j w1 (hF : For nx R j) hN => (by
    have := whole_any (w.heap.size + 1 + 1 + 1) (w.heap.size + 1 + 1 + 1 + 1) nx j x (R.getD x.toNat 0) hx.1 (by omega) (by have := (hF.root x.toNat (by omega)).2.2; rwa [show ((x.toNat : Nat) : Int) = x by omega] at this) w1 hN
    rwa [nd_a _ _ _ hx.2] at this :
    Calls Try.prog 56 #[.pointer (some ⟨w.heap.size + 1 + 1 + 1, x.toNat, none⟩)] w1 fun e w' => e = .returned (pv (w.heap.size + 1 + 1 + 1) (w.heap.size + 1 + 1 + 1 + 1) (R.getD x.toNat 0)) ∧ w1 = w'))
  have hwb := Lib.hid (fun (y : Int) (hy : 0 ≤ y ∧ y < 8) nx R j w1 (hF : For nx R j) hN => (by
    have := whole_any (w.heap.size + 1 + 1 + 1) (w.heap.size + 1 + 1 + 1 + 1) nx j (8 + y) (R.getD (8 + y).toNat 0) (by omega) (by omega) (by have := (hF.root (8 + y).toNat (by omega)).2.2; rwa [show (((8 + y).toNat : Nat) : Int) = 8 + y by omega] at this) w1 hN
    rwa [nd_b _ _ _ hy.1] at this :
    Calls Try.prog 56 #[.pointer (some ⟨w.heap.size + 1 + 1 + 1 + 1, y.toNat, none⟩)] w1 fun e w' => e = .returned (pv (w.heap.size + 1 + 1 + 1) (w.heap.size + 1 + 1 + 1 + 1) (R.getD (8 + y).toNat 0)) ∧ w1 = w'))
  have hmk := makeP (w.heap.size + 1 + 1 + 1) (w.heap.size + 1 + 1 + 1 + 1) N h1 h4
  have hprP := Lib.hid (prP_rts N ms es hA hB0)
  have hprC := Lib.hid (prC_rts N ms es hA hB0)
  have hzb := Lib.hid (lab_bd (rts N ms es N) (nods N ms es) (rts_len N ms es N) (fun u hu => rts_bd N ms es hA hB0 N u hu) (nods_bd N ms es hA hB0))
  have c0 := dcells_zero N ms
  have hP0 : Prd w N ms es nils (((((w.alloc (.cells (dcells N ms) 31)).alloc (.cells (dcells N es) 31)).alloc (.cells zp 31)).alloc (.cells (pcl (w.heap.size + 1 + 1 + 1) (w.heap.size + 1 + 1 + 1 + 1) (nils.take 8)) 90)).alloc (.cells (pcl (w.heap.size + 1 + 1 + 1) (w.heap.size + 1 + 1 + 1 + 1) (nils.drop 8)) 90)) :=
    ⟨((((Own.new _ _ _).alloc _).alloc _).alloc _).alloc _, (((Own.at _ _ _ (by simp)).alloc _).alloc _).alloc _, ((Own.at _ _ _ (by simp)).alloc _).alloc _,
      ⟨by omega, by simp [nils], (Own.at _ _ _ (by simp)).alloc _, Own.at _ _ _ (by simp)⟩,
      (((((Below.refl _ _).alloc (Nat.le_refl _) _).alloc (by simp) _).alloc (by simp; omega) _).alloc (by simp; omega) _).alloc (by simp; omega) _⟩
  rw [nils_a, nils_b] at hP0
  have hP0' := Lib.hid hP0
  clear hms hes hA hB0 hP0
  go_enter Try.func31, Try.ntmps31
  go_wp2
  go_loopw [18] (fun i wr => ∃ (k : Nat) (nx : List Int), k ≤ N ∧ i = .int .i64 k ∧ For nx (rts N ms es k) k ∧ Prd w N ms es nx wr) (fun i _ => ((N : Int) - intOf i).toNat)
  case atStart => exact ⟨0, nils, by omega, rfl, For.start, hP0'.out⟩
  case round =>
    clear hP0'
    obtain ⟨k, nx, hk, rfl, hF, hP⟩ := hrel
    by_cases hlt : k < N
    · have i1 : (k : Int) < (N : Int) := by omega
      have x1 := hA'.out (N + k)
      have x2 := hB'.out k
      have hwr : IntKind.i64.wrap ((N : Int) + (k : Int)) = (N : Int) + (k : Int) := IntWalk.i64_in _ (by omega)
      have hb1 : 0 ≤ (N : Int) + (k : Int) := by omega
      have hb2 : (N : Int) + (k : Int) < 8 := by omega
      have hb3 : (k : Int) < 8 := by omega
      have hb4 : ((N : Int) + (k : Int)).toNat = N + k := by omega
      have hcA : ∀ wd, Prd w N ms es nx wd → wd.cell? ⟨w.heap.size, 1 + (N + k), none⟩ = some (.int .u8 (ms.getD (N + k) 0)) := fun wd h => by rw [h.o.cell, dcells_get _ _ _ (by rw [hl.out]; omega)]
      have hcB : ∀ wd, Prd w N ms es nx wd → wd.cell? ⟨w.heap.size + 1, 1 + k, none⟩ = some (.int .u8 (es.getD k 0)) := fun wd h => by rw [h.p.cell, dcells_get _ _ _ (by rw [hl2.out]; omega)]
      have hjk := Lib.hid (fun w1 (h : Prd w N ms es nx w1) => hjo.out _ _ x1 x2 nx _ k w1 hF h.n)
      have hrr := Lib.hid (show rts N ms es (k + 1) = mrgR (rts N ms es k) (ms.getD (N + k) 0).toNat (8 + es.getD k 0).toNat from rfl)
      have HCA := Lib.hid hcA
      have HCB := Lib.hid hcB
      have HP := Lib.hid hP
      clear hcA hcB hF hP
      generalize ms.getD (N + k) 0 = x at *
      generalize es.getD k 0 = y at *
      obtain ⟨x0, x8⟩ := x1
      obtain ⟨y0, y8⟩ := x2
      go_wp2
      refine wp_region_on (Prd w N ms es nx) [0, 1, 2, 3, 4, 5, 6, 7, 8, 9, 10, 11] [] 12 (by kernel_rfl) (by kernel_rfl) (HP.out.drewN 1) ?_
      simp only [List.map_cons, List.map_nil, opN_zero, opN_succ, List.drop_succ_cons, List.drop_zero]
      (apply wpOn_step; · (intro wd hS K hK; have k1 := HCA.out wd hS; have k2 := HCB.out wd hS; clear hS; go_simp; exact hK))
      (apply wpOn_step; · (intro wd hS K hK; have k1 := HCA.out wd hS; have k2 := HCB.out wd hS; clear hS; go_simp; exact hK))
      (apply wpOn_step; · (intro wd hS K hK; have k1 := HCA.out wd hS; have k2 := HCB.out wd hS; clear hS; go_simp; exact hK))
      (apply wpOn_step; · (intro wd hS K hK; have k1 := HCA.out wd hS; have k2 := HCB.out wd hS; clear hS; go_simp; exact hK))
      (apply wpOn_step; · (intro wd hS K hK; have k1 := HCA.out wd hS; have k2 := HCB.out wd hS; clear hS; go_simp; exact hK))
      (apply wpOn_step; · (intro wd hS K hK; have k1 := HCA.out wd hS; have k2 := HCB.out wd hS; clear hS; go_simp; exact hK))
      (apply wpOn_step; · (intro wd hS K hK; have k1 := HCA.out wd hS; have k2 := HCB.out wd hS; clear hS; go_simp; exact hK))
      (apply wpOn_step; · (intro wd hS K hK; have k1 := HCA.out wd hS; have k2 := HCB.out wd hS; clear hS; go_simp; exact hK))
      (apply wpOn_step; · (intro wd hS K hK; have k1 := HCA.out wd hS; have k2 := HCB.out wd hS; clear hS; go_simp; exact hK))
      (apply wpOn_step; · (intro wd hS K hK; have k1 := HCA.out wd hS; have k2 := HCB.out wd hS; clear hS; go_simp; exact hK))
      (apply wpOn_step; · (intro wd hS K hK; have k1 := HCA.out wd hS; have k2 := HCB.out wd hS; clear hS; go_simp; exact hK))
      (apply wpOn_step; · (intro wd hS K hK; have k1 := HCA.out wd hS; have k2 := HCB.out wd hS; clear hS; go_simp; exact hK))
      refine wpOn_nil ?_
      intro w8 hS8
      refine wpMid_nil ?_
      go_wp2_with (first
        | (go_at_call 55; ((with_reducible refine (hjk.out w8 hS8).mono ?_); rintro e w9 ⟨rfl, ⟨nx', hF', hN'⟩, hB9⟩)))
      have hP9 := hS8.join hN' hB9
      rw [← hrr.out] at hF'
      go_roundw
      case rel => exact ⟨k + 1, nx', by omega, by go_num, hF', hP9⟩
      case measure => simp [intOf]; omega
    · obtain rfl : k = N := by omega
      obtain ⟨w5, rfl⟩ : ∃ x, x = wr := ⟨_, rfl⟩
      have hs5 := hP.n.ob.lt
      obtain ⟨R, hR⟩ : ∃ R, rts k ms es k = R := ⟨_, rfl⟩
      rw [hR] at hF hzb hprP hprC
      obtain ⟨zs, hzs⟩ : ∃ z, lab R (nods k ms es) = z := ⟨_, rfl⟩
      rw [hzs] at hzb hprP hprC
      have hzl := Lib.hid (show zs.length = 2 * k + k by rw [← hzs, lab_len, nods_len])
      have hz0 := Lib.hid (fun i (h : i < k) => show zs.getD i 0 = R.getD (ms.getD i 0).toNat 0 by rw [← hzs, lab_get _ _ _ (by rw [nods_len]; omega), nods_0 _ _ _ _ h])
      have hz1 := Lib.hid (fun i (h : i < k) => show zs.getD (k + i) 0 = R.getD (8 + es.getD (k + i) 0).toNat 0 by rw [← hzs, lab_get _ _ _ (by rw [nods_len]; omega), nods_1 _ _ _ _ h])
      have hz2 := Lib.hid (fun i (h : i < k) => show zs.getD (2 * k + i) 0 = R.getD (8 + es.getD i 0).toNat 0 by rw [← hzs, lab_get _ _ _ (by rw [nods_len]; omega), nods_2 _ _ _ _ h])
      have HF := Lib.hid hF
      clear hR hzs hF
      go_wp2
      clear hmk
      go_loopw [39] (fun i wr => ∃ j : Nat, j ≤ k ∧ i = .int .i64 j ∧ Own wr w5.heap.size (pcl (w.heap.size + 1 + 1 + 1) (w.heap.size + 1 + 1 + 1 + 1) (endG zs k j)) 87 ∧ Prd w k ms es nx wr) (fun i _ => ((k : Int) - intOf i).toNat)
      case atStart => exact ⟨0, by omega, rfl, by rw [endG_zero]; exact Own.new _ _ _, hP.below ((Below.refl _ _).alloc (Nat.le_refl _) _) hs5⟩
      case round =>
        clear hP
        obtain ⟨j, hj, rfl, hE, hP⟩ := hrel
        have hel := Lib.hid (endG_len zs k j)
        by_cases hlt2 : j < k
        · have i1 : (j : Int) < (k : Int) := by omega
          have x1 := hA'.out j
          have x2 := hB'.out (k + j)
          have k1 := hP.o.cell (1 + j)
          rw [dcells_get _ _ _ (by rw [hl.out]; omega)] at k1
          have k2 := hP.p.cell (1 + (k + j))
          rw [dcells_get _ _ _ (by rw [hl2.out]; omega)] at k2
          have hw1 := Lib.hid (fun w1 (h : Prd w k ms es nx w1) => hwa.out _ x1 nx R k w1 HF.out h.n)
          have hw2 := Lib.hid (fun w1 (h : Prd w k ms es nx w1) => hwb.out _ x2 nx R k w1 HF.out h.n)
          have hst := endG_step zs k j hlt2
          have hr1 := (hzb.out (zs.getD j 0) (by rw [List.getD_eq_getElem?_getD, List.getElem?_eq_getElem (by rw [hzl.out]; omega)]; exact List.getElem_mem _)).1
          have hr2 := (hzb.out (zs.getD (k + j) 0) (by rw [List.getD_eq_getElem?_getD, List.getElem?_eq_getElem (by rw [hzl.out]; omega)]; exact List.getElem_mem _)).1
          rw [hz0.out j hlt2] at hr1
          rw [hz1.out j hlt2] at hr2
          rw [hz0.out j hlt2, hz1.out j hlt2] at hst
          generalize R.getD (ms.getD j 0).toNat 0 = r1 at *
          generalize R.getD (8 + es.getD (k + j) 0).toNat 0 = r2 at *
          generalize ms.getD j 0 = x at *
          obtain ⟨y, hye⟩ : ∃ y, es.getD (k + j) 0 = y := ⟨_, rfl⟩
          rw [hye] at x2 hw2 k2
          obtain ⟨x0, x8⟩ := x1
          obtain ⟨y0, y8⟩ := x2
          have c1 := hE.cell j
          rw [pcl_get _ _ _ _ (by rw [hel.out]; omega)] at c1
          have f1 := hE.free j
          have hE1 := hE.set j (pv (w.heap.size + 1 + 1 + 1) (w.heap.size + 1 + 1 + 1 + 1) r1)
          rw [pcl_set] at hE1
          have hB1 : Below w5.heap.size wr (wr.setCell ⟨w5.heap.size, j, none⟩ (pv (w.heap.size + 1 + 1 + 1) (w.heap.size + 1 + 1 + 1 + 1) r1)) := Below.setCell (p := ⟨w5.heap.size, j, none⟩) (Below.refl _ _) (Nat.le_refl _) _
          have hP1 := hP.below hB1 hs5
          have k3 := hP1.p.cell (1 + (k + j))
          rw [dcells_get _ _ _ (by rw [hl2.out]; omega)] at k3
          rw [hye] at k3
          clear hye
          have c2 := hE1.cell (k + j)
          rw [pcl_get _ _ _ _ (by rw [List.length_set, hel.out]; omega)] at c2
          have f2 := hE1.free (k + j)
          have hE2 := hE1.set (k + j) (pv (w.heap.size + 1 + 1 + 1) (w.heap.size + 1 + 1 + 1 + 1) r2)
          rw [pcl_set, hst] at hE2
          have hB2 : Below w5.heap.size (wr.setCell ⟨w5.heap.size, j, none⟩ (pv (w.heap.size + 1 + 1 + 1) (w.heap.size + 1 + 1 + 1 + 1) r1)) ((wr.setCell ⟨w5.heap.size, j, none⟩ (pv (w.heap.size + 1 + 1 + 1) (w.heap.size + 1 + 1 + 1 + 1) r1)).setCell ⟨w5.heap.size, k + j, none⟩ (pv (w.heap.size + 1 + 1 + 1) (w.heap.size + 1 + 1 + 1 + 1) r2)) := Below.setCell (p := ⟨w5.heap.size, k + j, none⟩) (Below.refl _ _) (Nat.le_refl _) _
          have hP2 := hP1.below hB2 hs5
          have hb1 : (k : Int) + (j : Int) < 8 := by omega
          have hb2 : (k : Int) + (j : Int) < 2 * (k : Int) := by omega
          have hb3 : (j : Int) < 2 * (k : Int) := by omega
          have hb5 : 0 ≤ (k : Int) + (j : Int) := by omega
          have hb6 : ((k : Int) + (j : Int)).toNat = k + j := by omega
          have KE := Lib.hid hE2
          have KP := Lib.hid hP2
          have HP := Lib.hid hP
          have HP1 := Lib.hid hP1
          clear k2 hst hE hE1 hE2 hB1 hB2 hP hP1 hP2
          rw [pv_some _ _ _ hr1] at hw1 KE KP c2 f2 k3 HP1
          rw [pv_some _ _ _ hr2] at hw2 KE KP
          generalize nb (w.heap.size + 1 + 1 + 1) (w.heap.size + 1 + 1 + 1 + 1) r1 = g1 at *
          generalize no r1 = o1 at *
          generalize nb (w.heap.size + 1 + 1 + 1) (w.heap.size + 1 + 1 + 1 + 1) r2 = g2 at *
          generalize no r2 = o2 at *
          generalize pv (w.heap.size + 1 + 1 + 1) (w.heap.size + 1 + 1 + 1 + 1) ((endG zs k j).getD j 0) = v3 at *
          generalize pv (w.heap.size + 1 + 1 + 1) (w.heap.size + 1 + 1 + 1 + 1) (((endG zs k j).set j r1).getD (k + j) 0) = v4 at *
          go_wp2_with (first
            | (go_at_call 56; ((with_reducible refine (hw1.out wr HP.out).mono ?_); rintro e wa ⟨rfl, rfl⟩))
            | (go_at_call 56; ((with_reducible refine (hw2.out _ HP1.out).mono ?_); rintro e wb ⟨rfl, rfl⟩)))
          go_roundw
          case rel => exact ⟨j + 1, by omega, by go_num, KE.out, KP.out⟩
          case measure => simp [intOf]; omega
        · obtain rfl : j = k := by omega
          have hEE := hE
          rw [endG_end zs j (by rw [hzl.out]; omega)] at hEE
          obtain ⟨w6, rfl⟩ : ∃ x, x = wr := ⟨_, rfl⟩
          have hs6 := hE.lt
          have htk := Lib.hid (show (zs.take (2 * j)).length = 2 * j by simp; rw [hzl.out]; omega)
          have hzi := Lib.hid (fun k (h : k < zs.length) => hzb.out (zs.getD k 0) (by rw [List.getD_eq_getElem?_getD, List.getElem?_eq_getElem h]; exact List.getElem_mem _))
          have hpom := Lib.hid (fun wx (hN : Nod (w.heap.size + 1 + 1 + 1) (w.heap.size + 1 + 1 + 1 + 1) nx wx) (hO : Own wx w5.heap.size (pcl (w.heap.size + 1 + 1 + 1) (w.heap.size + 1 + 1 + 1 + 1) (zs.take (2 * j))) 87) => pomP_any (w.heap.size + 1 + 1 + 1) (w.heap.size + 1 + 1 + 1 + 1) nx w5.heap.size 0 (2 * j) (2 * j) (j : Int) (zs.take (2 * j)) wx htk.out (by omega) (by omega) hN (fun k hk => by rw [getD_take _ _ _ (by rw [htk.out] at hk; exact hk)]; exact hzi.out k (by rw [htk.out] at hk; rw [hzl.out]; omega)) hO.lt (fun k hk => by rw [Nat.zero_add, hO.cell, pcl_get _ _ _ _ hk]))
          have hcl := cloneP_any (w.heap.size + 1 + 1 + 1) (w.heap.size + 1 + 1 + 1 + 1) w5.heap.size (2 * j) (zs.take (2 * j)) (by rw [htk.out]; omega) w6 hs6 (fun k hk => by rw [Nat.zero_add, hEE.cell, pcl_get _ _ _ _ hk])
          rw [htk.out] at hcl
          have HCL := Lib.hid hcl
          have HP := Lib.hid hP
          have HE := Lib.hid hEE
          have hT := Lib.hid (show told (zs.take (2 * j)) = prP j ms es from hprP.out)
          clear hcl hE hEE hP hprP
          go_wp2_with (first
            | (go_at_call 57; ((with_reducible refine (HCL.out).mono ?_); rintro e w7 ⟨⟨v, rfl, hv⟩, hB7⟩)))
          have hP7 := HP.out.below hB7 (by omega)
          have hE7 := HE.out.below hB7 hs6
          have hsz7 := hB7.size
          go_loopw [12, 68] (fun v i wr => ∃ i' : Nat, i' ≤ j ∧ i = .int .i64 i' ∧ RowP (w.heap.size + 1 + 1 + 1) (w.heap.size + 1 + 1 + 1 + 1) wr w6.heap.size v (alL zs (2 * j) i') ∧ Own wr w5.heap.size (pcl (w.heap.size + 1 + 1 + 1) (w.heap.size + 1 + 1 + 1 + 1) (zs.take (2 * j))) 87 ∧ Prd w j ms es nx wr ∧ w6.heap.size ≤ wr.heap.size) (fun _ i _ => ((j : Int) - intOf i).toNat)
          case atStart => exact ⟨0, by omega, rfl, hv, hE7, hP7, hsz7⟩
          case round =>
            clear hv hE7 hP7 hB7 hsz7
            obtain ⟨i, hi, rfl, hv, hE, hP, hsz⟩ := hrel
            have hal := alL_len zs (2 * j) i (by rw [hzl.out]; omega)
            have hcnl := cn_le zs (2 * j) i
            have hane : alL zs (2 * j) i ≠ [] := fun e => by rw [e] at hal; simp at hal; omega
            obtain ⟨g, cap, rfl, hg, hg2, hRd⟩ := hv.parts hane
            by_cases hlt3 : i < j
            · have i1 : (i : Int) < (j : Int) := by omega
              have x2 := hB'.out i
              have k2 := hP.p.cell (1 + i)
              rw [dcells_get _ _ _ (by rw [hl2.out]; omega)] at k2
              have hw2 := Lib.hid (hwb.out _ x2 nx R j wr HF.out hP.n)
              have hzz := hz2.out i hlt3
              have hrb := hzi.out (2 * j + i) (by rw [hzl.out]; omega)
              have hseen := alL_seen zs (2 * j) i (by rw [hzl.out]; omega) (zs.getD (2 * j + i) 0)
              have hcon := conP_any (w.heap.size + 1 + 1 + 1) (w.heap.size + 1 + 1 + 1 + 1) nx g 0 cap (alL zs (2 * j) i) (zs.getD (2 * j + i) 0) wr (by rw [hal]; omega) hP.n hrb.1 hrb.2 (alL_bd zs (2 * j) i hzb.out (by rw [hzl.out]; omega)) hRd
              rw [hseen] at hcon
              have hstep : alL zs (2 * j) (i + 1) = if fi zs (zs.getD (2 * j + i) 0) < 2 * j + i then alL zs (2 * j) i else alL zs (2 * j) i ++ [zs.getD (2 * j + i) 0] := rfl
              rw [← hzz] at hw2
              rw [pv_some _ _ _ hrb.1] at hw2
              have hpr := pv_some (w.heap.size + 1 + 1 + 1) (w.heap.size + 1 + 1 + 1 + 1) _ hrb.1
              have HV := Lib.hid hv
              have HE2 := Lib.hid hE
              have HP2 := Lib.hid hP
              have HCON := Lib.hid hcon
              have HAL := Lib.hid hal
              obtain ⟨r0, r16⟩ := hrb
              clear hzz hseen hcon hv hRd hE hP hane hal
              generalize zs.getD (2 * j + i) 0 = r at *
              generalize es.getD i 0 = y at *
              obtain ⟨y0, y8⟩ := x2
              obtain ⟨LQ, hLQ⟩ : ∃ l, (alL zs (2 * j) i).length = l := ⟨_, rfl⟩
              have HLQ := Lib.hid hLQ
              rw [hLQ] at HCON
              by_cases hs : fi zs r < 2 * j + i
              · have hd : decide (fi zs r < 2 * j + i) = true := by simp [hs]
                rw [hd] at HCON
                rw [if_pos hs] at hstep
                have HST := Lib.hid hstep
                have HR := Lib.hid hpr
                clear hs hd hstep hpr
                generalize nb (w.heap.size + 1 + 1 + 1) (w.heap.size + 1 + 1 + 1 + 1) r = g1 at *
                generalize no r = o1 at *
                rw [hLQ]
                clear hLQ
                go_wp2_with (first
                  | (go_at_call 56; ((with_reducible refine (hw2.out).mono ?_); rintro e wa ⟨rfl, rfl⟩))
                  | (go_at_call 58; ((with_reducible refine (HCON.out).mono ?_); rintro e wb ⟨rfl, rfl⟩)))
                go_roundw
                case rel => exact ⟨i + 1, by omega, by go_num, by rw [HST.out, ← HLQ.out]; exact HV.out, HE2.out, HP2.out, hsz⟩
                case measure => simp [intOf]; omega
              · have hd : decide (fi zs r < 2 * j + i) = false := by simp; omega
                rw [hd] at HCON
                rw [if_neg hs] at hstep
                have HST := Lib.hid hstep
                clear hs hd hstep
                have hnew : ∀ (wx : World) j', j' < [r].length → (wx.alloc (.cells #[.pointer (some ⟨nb (w.heap.size + 1 + 1 + 1) (w.heap.size + 1 + 1 + 1 + 1) r, no r, none⟩)] 87)).cell? ((⟨wx.heap.size, 0, none⟩ : Addr).add j') = some (pv (w.heap.size + 1 + 1 + 1) (w.heap.size + 1 + 1 + 1 + 1) ([r].getD j' 0)) := by
                  intro wx j' hj'
                  obtain rfl : j' = 0 := by simpa using hj'
                  rw [Addr.add_mid]
                  show _ = some (pv (w.heap.size + 1 + 1 + 1) (w.heap.size + 1 + 1 + 1 + 1) r)
                  rw [hpr]
                  exact (Own.new wx _ _).cell 0
                have HN := Lib.hid hnew
                clear hpr hnew
                generalize nb (w.heap.size + 1 + 1 + 1) (w.heap.size + 1 + 1 + 1 + 1) r = g1 at *
                generalize no r = o1 at *
                rw [hLQ]
                clear hLQ
                go_wp2_with (first
                  | (go_at_call 56; ((with_reducible refine (hw2.out).mono ?_); rintro e wa ⟨rfl, rfl⟩))
                  | (go_at_call 58; ((with_reducible refine (HCON.out).mono ?_); rintro e wb ⟨rfl, rfl⟩))
                  | (refine wpList_append_rowP rfl (.tmp 81) (.tmp 83) rfl (w.heap.size + 1 + 1 + 1) (w.heap.size + 1 + 1 + 1 + 1) w6.heap.size _ (alL zs (2 * j) i) [r] rfl (by have := HV.out.alloc (.cells #[.pointer (some ⟨g1, o1, none⟩)] 87); rw [HLQ.out] at this; exact this) ⟨wr.heap.size, 0, none⟩ 1 rfl (HN.out wr) (by rw [HAL.out]; simp; omega) (by simp; omega) ?_; intro v8 w8 hv8 hG8))
                have hb8 : Below w6.heap.size wr w8 := ((Below.refl w6.heap.size wr).alloc hsz _).grown hG8 (by simp; omega) (by have := HV.out.blk; rw [HLQ.out] at this; exact this)
                have hP8 := HP2.out.below hb8 (by omega)
                have hE8 := HE2.out.below hb8 hs6
                have hsz8 : w6.heap.size ≤ w8.heap.size := Nat.le_trans hsz hb8.size
                rw [← HST.out] at hv8
                clear hG8 hb8
                go_wp2
                go_roundw
                case rel => exact ⟨i + 1, by omega, by go_num, hv8, hE8, hP8, hsz8⟩
                case measure => simp [intOf]; omega
            · obtain rfl : i = j := by omega
              have hpm := Lib.hid (hpom.out wr hP.n hE)
              have hC := hprC.out
              obtain ⟨LQ, hLQ⟩ : ∃ l, (alL zs (2 * i) i).length = l := ⟨_, rfl⟩
              rw [hLQ] at hal ⊢
              obtain ⟨cc, hcc⟩ : ∃ cc, cn zs (2 * i) i = cc := ⟨_, rfl⟩
              rw [hcc] at hal hC hcnl
              have hll : (LQ : Int) - 2 * (i : Int) = cc := by omega
              have hR := hP.r
              have hBz := hP.b
              have htl := Lib.hid (told_len (zs.take (2 * i)) (by rw [htk.out]; omega))
              have hlq0 : (LQ : Int) ≤ 12 := by omega
              have hlq1 : 2 * (i : Int) ≤ (LQ : Int) := by omega
              have hwr : IntKind.i64.wrap ((LQ : Int) - 2 * (i : Int)) = cc := by rw [hll]; exact IntWalk.i64_in _ (by omega)
              clear hal
              rw [hT.out] at hpm htl
              clear hv hRd hE hP hane hLQ hcc
              go_wp2_with (first
                | (go_at_call 59; ((with_reducible refine (hpm.out).mono ?_); rintro e w9 ⟨rfl, hB9⟩))
                | (refine wpList_store_own rfl 31 _ _ rfl _ _ rfl rfl 31 _ (hR.below hB9 hR.lt) (rowP (d9 _ _ (htl.out))) (z_eq8 (d9 _ _ htl.out)) (dcells_one _ _) ?_; intro w10 hO10 hN10))
              refine bodyPost_ret (v := .tuple #[.agg (dcells i (prP i ms es)), .int .i64 (prC i ms es : Nat)]) (results_row_tmp rfl _ _ _ _ _ (0, 0) _ rfl (hO10) Try.underlying31 rfl (rowP (d9 _ _ (htl.out))) _ rfl) rfl (⟨rfl, (hBz.trans (hB9.mono hBz.size)).trans (hN10.below.mono (by omega))⟩)
end Go.Proofs.Ytlgdeciikliihaa
