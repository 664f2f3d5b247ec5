/- The contract of the model's product of two partitions. -/
import Derived.Test.YtlgdeciikliihaaPtK
import Derived.Test.YtlgdeciikliihaaPtx
import Derived.Test.YtlgdeciikliihaaPun
namespace Go.Proofs.Ytlgdeciikliihaa
open Go.RowKit
set_option linter.unusedVariables false
theorem zero64 : (Try.prog.built 83 []) = some (icells (List.replicate 16 0)) := by kernel_rfl
def bcells (xs : List Bool) : Array Value := (xs.map Value.bool).toArray
theorem bcells_get (xs : List Bool) (i : Nat) (h : i < xs.length) : (bcells xs)[i]? = some (.bool (xs.getD i false)) := by simp [bcells, h]
theorem bcells_set (xs : List Bool) (i : Nat) (x : Bool) : (bcells xs).setIfInBounds i (.bool x) = bcells (xs.set i x) := by simp [bcells, List.map_set]
theorem zerobool : (Try.prog.built 39 []) = some (bcells (List.replicate 16 false)) := by kernel_rfl
theorem row92 {c : Array Value} (h : c.size = 16) : (Try.prog.info? 83).map (·.size) = some c.size := by rw [h]; kernel_rfl
theorem row93 {c : Array Value} (h : c.size = 16) : (Try.prog.info? 39).map (·.size) = some c.size := by rw [h]; kernel_rfl
theorem icells_one (xs : List Int) : (icells xs).all (·.oneCell') = true := by simp [icells, Value.oneCell']
theorem bcells_one (xs : List Bool) : (bcells xs).all (·.oneCell') = true := by simp [bcells, Value.oneCell']
/-- What stays through the model's product: the factors, the result's cell, the leaders. -/
structure Tms (w0 : World) (N : Nat) (ms es L : List Int) (w : World) : Prop where
  o : Own w w0.heap.size (dcells N ms) 31
  p : Own w (w0.heap.size + 1) (dcells N es) 31
  r : Own w (w0.heap.size + 1 + 1) zp 31
  l : Own w (w0.heap.size + 1 + 1 + 1) (icells L) 83
  b : Below w0.heap.size w0 w
theorem Tms.drewN {w0 : World} {N : Nat} {ms es L : List Int} {w : World} (h : Tms w0 N ms es L w) (k : Nat) : Tms w0 N ms es L (w.drewN k) := ⟨h.o.drewN k, h.p.drewN k, h.r.drewN k, h.l.drewN k, Below.drewN h.b k⟩
theorem Tms.below {w0 : World} {N : Nat} {ms es L : List Int} {w w' : World} (h : Tms w0 N ms es L w) {B : Nat} (hB : Below B w w') (hs : w0.heap.size + 1 + 1 + 1 < B) : Tms w0 N ms es L w' :=
  ⟨h.o.below hB (by omega), h.p.below hB (by omega), h.r.below hB (by omega), h.l.below hB (by omega), h.b.trans (hB.mono (by omega))⟩
theorem Tms.put {w0 : World} {N : Nat} {ms es L : List Int} {w : World} (h : Tms w0 N ms es L w) (i : Nat) (x : Int) : Tms w0 N ms es (L.set i x) (w.setCell ⟨w0.heap.size + 1 + 1 + 1, i, none⟩ (.int .i64 x)) :=
  ⟨h.o.other (by simp <;> omega) _, h.p.other (by simp <;> omega) _, h.r.other (by simp) _, by have := h.l.set i (.int .i64 x); rwa [icells_set] at this, h.b.setCell (p := ⟨w0.heap.size + 1 + 1 + 1, i, none⟩) (by simp; omega) _⟩
set_option maxRecDepth 100000 in
set_option maxHeartbeats 4000000 in
theorem timesPS_nat (N : Nat) (ms es : List Int) (hms : ms.length = 8) (hes : es.length = 8) (hA : Nums ms) (hB0 : Nums es) (w : World) (h1 : 1 ≤ N) (h4 : N ≤ 4) :
    Calls Try.prog 28 #[.agg (dcells N ms), .agg (dcells N es)] w fun e w' => e = .returned (.tuple #[.agg (dcells N (prP N ms es)), .int .i64 (prC N ms es : Nat)]) ∧ Below w.heap.size w w' := by
  have hl := Lib.hid hms
  have hl2 := Lib.hid hes
  have hA' := Lib.hid hA
  have hB' := Lib.hid hB0
  have c0 := dcells_zero N ms
  have hmk := mkE7
  have hledb := Lib.hid (fun i u (h : u < 16) => led_bd N ms es hA hB0 i u h)
  have hledl := Lib.hid (fun i => led_len N ms es i)
  have hjoi := Lib.hid (fun i (h : i < N) => led_joined N ms es hA hB0 i N h)
  have hzb := Lib.hid (lab_bd (led N ms es N) (nods N ms es) (led_len N ms es N) (fun u hu => led_bd N ms es hA hB0 N u hu) (nods_bd N ms es hA hB0))
  clear hms hes hA hB0
  go_enter Try.func28, Try.ntmps28
  go_wp2_with (first
    | (refine wpList_build_of rfl 83 #[] rfl (icells (List.replicate 16 0)) ?_ ?_; (exact zero64))
    | (refine wpList_store_own rfl 83 _ _ rfl _ _ rfl rfl 83 _ (Own.at _ _ _ (by simp)) (row92 rfl) rfl (icells_one _) ?_; intro w4 hO4 hN4))
  have hT0 : Tms w N ms es (ldI 0) w4 := by
    refine ⟨((((Own.new _ _ _).alloc _).alloc _).alloc _).only hN4 (by omega), ((((Own.at _ _ _ (by simp)).alloc _).alloc _)).only hN4 (by omega), (((Own.at _ _ _ (by simp)).alloc _)).only hN4 (by omega), by rw [ldI_zero]; exact hO4, ?_⟩
    exact (((((Below.refl _ _).alloc (Nat.le_refl _) _).alloc (by simp) _).alloc (by simp; omega) _).alloc (by simp; omega) _).trans (hN4.below.mono (by omega))
  clear hO4 hN4
  go_loopw [8] (fun i wr => ∃ k : Nat, k ≤ 16 ∧ i = .int .i64 k ∧ Tms w N ms es (ldI k) wr) (fun i _ => (16 - intOf i).toNat)
  case atStart => exact ⟨0, by omega, rfl, hT0⟩
  case round =>
    clear hT0
    obtain ⟨k, hk, rfl, hT⟩ := hrel
    by_cases hlt : k < 16
    · have i1 : (k : Int) < 16 := by omega
      have hll := Lib.hid (ldI_len k)
      have c1 := hT.l.cell k
      rw [icells_get _ _ (by rw [hll.out]; omega)] at c1
      have f1 := hT.l.free k
      have hT2 := hT.put k (k : Int)
      rw [ldI_step k hlt] at hT2
      have K := Lib.hid hT2
      clear hT hT2
      generalize (ldI k).getD k 0 = x at *
      go_wp2
      go_roundw
      case rel => exact ⟨k + 1, by omega, by go_num, K.out⟩
      case measure => simp [intOf]; omega
    · obtain rfl : k = 16 := by omega
      rw [ldI_end] at hT
      have HT := Lib.hid hT
      clear hT
      go_wp2
      go_loopw [9] (fun i wr => ∃ k : Nat, k ≤ N ∧ i = .int .i64 k ∧ Tms w N ms es (led N ms es k) wr) (fun i _ => ((N : Int) - intOf i).toNat)
      case atStart => exact ⟨0, by omega, rfl, HT.out⟩
      case round =>
        clear HT
        obtain ⟨k, hk, rfl, hT⟩ := hrel
        by_cases hlt2 : k < N
        · have i1 : (k : Int) < (N : Int) := by omega
          have x1 := hA'.out (N + k)
          have x2 := hB'.out k
          have k1 := hT.o.cell (1 + (N + k))
          rw [dcells_get _ _ _ (by rw [hl.out]; omega)] at k1
          have k2 := hT.p.cell (1 + k)
          rw [dcells_get _ _ _ (by rw [hl2.out]; omega)] at k2
          have hll := Lib.hid (hledl.out k)
          have hstep : led N ms es (k + 1) = mrg (led N ms es k) (ms.getD (N + k) 0).toNat (8 + es.getD k 0).toNat := rfl
          have hb1 := hledb.out k (ms.getD (N + k) 0).toNat (by omega)
          have hb2 := hledb.out k (8 + es.getD k 0).toNat (by omega)
          generalize ms.getD (N + k) 0 = x at *
          generalize es.getD k 0 = y at *
          obtain ⟨L, hL⟩ : ∃ L, led N ms es k = L := ⟨_, rfl⟩
          rw [hL] at hT hll hstep hb1 hb2
          have c1 := hT.l.cell x.toNat
          rw [icells_get _ _ (by rw [hll.out]; omega)] at c1
          have c2 := hT.l.cell (8 + y).toNat
          rw [icells_get _ _ (by rw [hll.out]; omega)] at c2
          have hend := mgk_end L x.toNat (8 + y).toNat
          rw [hll.out] at hend
          rw [← hend] at hstep
          have HST := Lib.hid hstep
          obtain ⟨x0, x8⟩ := x1
          obtain ⟨y0, y8⟩ := x2
          generalize L.getD x.toNat 0 = one at *
          generalize L.getD (8 + y).toNat 0 = two at *
          have hb3 : 0 ≤ (N : Int) + (k : Int) := by omega
          have hb4 : (N : Int) + (k : Int) < 8 := by omega
          have hb5 : ((N : Int) + (k : Int)).toNat = N + k := by omega
          have HT := Lib.hid hT
          clear hT hL hend hstep
          go_wp2
          go_quiet (fail)
          go_wp2
          have HT2 := Lib.hid (HT.out.drewN nq)
          clear HT c1 c2 k1 k2
          obtain ⟨w5, hw5⟩ : ∃ x, wr.drewN nq = x := ⟨_, rfl⟩
          rw [hw5] at HT2 ⊢
          clear hw5
          go_loopw [12] (fun i wr => ∃ j : Nat, j ≤ 16 ∧ i = .int .i64 j ∧ Tms w N ms es (mgk L one two j) wr) (fun i _ => (16 - intOf i).toNat)
          case atStart => exact ⟨0, by omega, rfl, by rw [mgk_zero]; exact HT2.out⟩
          case round =>
            clear HT2
            obtain ⟨j, hj, rfl, hT⟩ := hrel
            by_cases hlt3 : j < 16
            · have i2 : (j : Int) < 16 := by omega
              have hml := Lib.hid (mgk_len L one two j (by rw [hll.out]; omega))
              have c1 := hT.l.cell j
              rw [icells_get _ _ (by rw [hml.out, hll.out]; omega), mgk_get _ _ _ _ (by rw [hll.out]; omega)] at c1
              have f1 := hT.l.free j
              by_cases he : L.getD j 0 = two
              · have hT2 := hT.put j one
                have hst := mgk_step L one two j (by rw [hll.out]; omega)
                rw [if_pos he] at hst
                rw [hst] at hT2
                have K := Lib.hid hT2
                rw [he] at c1
                clear hT hT2 hst he
                go_wp2
                go_roundw
                case rel => exact ⟨j + 1, by omega, by go_num, K.out⟩
                case measure => simp [intOf]; omega
              · have hsm := mgk_same L one two j (by rw [hll.out]; omega) he
                have K := Lib.hid (show Tms w N ms es (mgk L one two (j + 1)) wr by rw [hsm]; exact hT)
                generalize L.getD j 0 = v at *
                have hne : (v == two) = false := by simpa using he
                clear hT hsm he
                go_wp2
                go_roundw
                case rel => exact ⟨j + 1, by omega, by go_num, K.out⟩
                case measure => simp [intOf]; omega
            · obtain rfl : j = 16 := by omega
              have K := Lib.hid (show Tms w N ms es (led N ms es (k + 1)) wr by rw [HST.out]; exact hT)
              clear hT
              go_wp2
              go_roundw
              case rel => exact ⟨k + 1, by omega, by go_num, K.out⟩
              case measure => simp [intOf]; omega
        · obtain rfl : k = N := by omega
          obtain ⟨w5, rfl⟩ : ∃ x, x = wr := ⟨_, rfl⟩
          have hs5 := hT.l.lt
          have hll := Lib.hid (hledl.out k)
          obtain ⟨L, hL⟩ : ∃ L, led k ms es k = L := ⟨_, rfl⟩
          have hpr : prP k ms es = told ((lab L (nods k ms es)).take (2 * k)) := by unfold prP; rw [hL]
          have hpc : prC k ms es = cn (lab L (nods k ms es)) (2 * k) k := by unfold prC; rw [hL]
          rw [hL] at hT hll hzb hjoi
          obtain ⟨zs, hzs⟩ : ∃ z, lab L (nods k ms es) = z := ⟨_, rfl⟩
          rw [hzs] at hzb hpr hpc
          have hzl := Lib.hid (show zs.length = 2 * k + k by rw [← hzs, lab_len, nods_len])
          have hz0 := Lib.hid (fun i (h : i < k) => show zs.getD i 0 = L.getD (ms.getD i 0).toNat 0 by rw [← hzs, lab_get _ _ _ (by rw [nods_len]; omega), nods_0 _ _ _ _ h])
          have hz1 := Lib.hid (fun i (h : i < k) => show zs.getD (k + i) 0 = L.getD (8 + es.getD (k + i) 0).toNat 0 by rw [← hzs, lab_get _ _ _ (by rw [nods_len]; omega), nods_1 _ _ _ _ h])
          have hz2 := Lib.hid (fun i (h : i < k) => show zs.getD (2 * k + i) 0 = L.getD (ms.getD (k + i) 0).toNat 0 by rw [← hzs, lab_get _ _ _ (by rw [nods_len]; omega), nods_2 _ _ _ _ h, hjoi.out i h])
          have hzi := Lib.hid (fun k (h : k < zs.length) => hzb.out (zs.getD k 0) (by rw [List.getD_eq_getElem?_getD, List.getElem?_eq_getElem h]; exact List.getElem_mem _))
          have HPR := Lib.hid hpr
          have HPC := Lib.hid hpc
          have HT := Lib.hid hT
          clear hL hzs hpr hpc hT
          go_wp2_with (first
            | (refine wpList_build_of rfl 39 #[] rfl (bcells (List.replicate 16 false)) ?_ ?_; (exact zerobool))
            | (refine wpList_store_own rfl 39 _ _ rfl _ _ rfl rfl 39 _ (Own.at _ _ _ (by simp)) (row93 rfl) rfl (bcells_one _) ?_; intro w6 hO6 hN6))
          have hI0 : Ints w6 w5.heap.size w5.heap.size 0 (zs.take 0) := ((Ints.new w5 w5.heap.size w5.heap.size 0 (Nat.le_refl _) rfl (by decide) #[] rfl).alloc _).only hN6 (by omega)
          have hK0 : Own w6 (w5.heap.size + 1) (bcells (kp zs 0)) 39 := by rw [kp_zero]; exact hO6
          have hB6 : Below w5.heap.size w5 w6 := (((Below.refl _ _).alloc (Nat.le_refl _) _).alloc (by simp) _).trans (hN6.below.mono (by omega))
          have hT6 := HT.out.below hB6 hs5
          have hsz6 := hO6.lt
          clear hO6 hN6 HT
          go_loopw [13, 15] (fun v i wr => ∃ j g cap : Nat, j ≤ k ∧ i = .int .i64 j ∧ v = .slice (some ⟨g, 0, none⟩) j cap ∧ Ints wr w5.heap.size g cap (zs.take j) ∧ g ≠ (w5.heap.size + 1) ∧ Own wr (w5.heap.size + 1) (bcells (kp zs 0)) 39 ∧ Tms w k ms es L wr ∧ (w5.heap.size + 1) < wr.heap.size) (fun _ i _ => ((k : Int) - intOf i).toNat)
          case atStart => exact ⟨0, _, _, by omega, rfl, rfl, hI0, by omega, hK0, hT6, hsz6⟩
          case round =>
            clear hI0 hK0 hB6 hT6 hsz6
            obtain ⟨j, g, cap, hj, rfl, rfl, hI, hg, hK, hT, hsz⟩ := hrel
            have htl := Lib.hid (show (zs.take j).length = j by simp; rw [hzl.out]; omega)
            by_cases hlt3 : j < k
            · have i1 : (j : Int) < (k : Int) := by omega
              have x1 := hA'.out j
              have k1 := hT.o.cell (1 + j)
              rw [dcells_get _ _ _ (by rw [hl.out]; omega)] at k1
              have hzz := hz0.out j hlt3
              have hst := Lib.hid (take_succ zs j (by rw [hzl.out]; omega))
              have c1 := hT.l.cell (ms.getD j 0).toNat
              rw [icells_get _ _ (by rw [hll.out]; omega), ← hzz] at c1
              clear hzz
              generalize zs.getD j 0 = r at *
              generalize ms.getD j 0 = x at *
              obtain ⟨x0, x8⟩ := x1
              have hge := hI.1
              have hlg := hI.lt
              go_wp2_with (first
                | (refine wpList_append_ints_at rfl (.tmp 71) (.tmp 78) rfl w5.heap.size g cap (zs.take j) r (by rw [ival, htl.out]; rfl) (hI.alloc _) ⟨wr.heap.size, 0, none⟩ 1 rfl ((Own.new _ _ _).cell 0) (by rw [htl.out]; omega) (by simp; omega) ?_; intro g2 cap2 w8 hI8 hG8 hat))
              have hK8 := (hK.alloc _).grown hG8 (fun e => hg e.symm)
              have hb8 : Below w5.heap.size wr w8 := ((Below.refl w5.heap.size wr).alloc (by omega) _).grown hG8 (by simp; omega) (fun k e => by simp at e; omega)
              have hT8 := hT.below hb8 hs5
              have hg8 : g2 ≠ (w5.heap.size + 1) := by rcases hat with rfl | rfl; exact hg; simp; omega
              have hsz8 : (w5.heap.size + 1) < w8.heap.size := Nat.lt_of_lt_of_le hsz hb8.size
              rw [← hst.out] at hI8
              clear hI hK hT hG8 hb8 hat
              go_wp2
              go_roundw
              case rel => exact ⟨j + 1, g2, cap2, by omega, by go_num, by simp [ival, htl.out], hI8, hg8, hK8, hT8, hsz8⟩
              case measure => simp [intOf]; omega
            · obtain rfl : j = k := by omega
              have hI' := Lib.hid hI
              have hK' := Lib.hid hK
              have hT' := Lib.hid hT
              clear hI hK hT
              go_wp2
              obtain ⟨w7, rfl⟩ : ∃ x, x = wr := ⟨_, rfl⟩
              go_loopw [13, 16] (fun v i wr => ∃ i' g cap : Nat, i' ≤ j ∧ i = .int .i64 i' ∧ v = .slice (some ⟨g, 0, none⟩) (j + i') cap ∧ Ints wr w5.heap.size g cap (zs.take (j + i')) ∧ g ≠ (w5.heap.size + 1) ∧ Own wr (w5.heap.size + 1) (bcells (kp zs 0)) 39 ∧ Tms w j ms es L wr ∧ (w5.heap.size + 1) < wr.heap.size) (fun _ i _ => ((j : Int) - intOf i).toNat)
              case atStart => exact ⟨0, g, cap, by omega, rfl, rfl, hI'.out, hg, hK'.out, hT'.out, hsz⟩
              case round =>
                clear hI' hK' hT' hg hsz
                obtain ⟨i, g, cap, hi, rfl, rfl, hI, hg, hK, hT, hsz⟩ := hrel
                have htl := Lib.hid (show (zs.take (j + i)).length = j + i by simp; rw [hzl.out]; omega)
                by_cases hlt4 : i < j
                · have i1 : (i : Int) < (j : Int) := by omega
                  have x1 := hB'.out (j + i)
                  have k1 := hT.p.cell (1 + (j + i))
                  rw [dcells_get _ _ _ (by rw [hl2.out]; omega)] at k1
                  have hzz := hz1.out i hlt4
                  have hst := Lib.hid (take_succ zs (j + i) (by rw [hzl.out]; omega))
                  have c1 := hT.l.cell (8 + es.getD (j + i) 0).toNat
                  rw [icells_get _ _ (by rw [hll.out]; omega), ← hzz] at c1
                  clear hzz
                  generalize zs.getD (j + i) 0 = r at *
                  generalize es.getD (j + i) 0 = x at *
                  obtain ⟨x0, x8⟩ := x1
                  have hge := hI.1
                  have hlg := hI.lt
                  have hb3 : 0 ≤ (j : Int) + (i : Int) := by omega
                  have hb4 : (j : Int) + (i : Int) < 8 := by omega
                  have hb5 : ((j : Int) + (i : Int)).toNat = j + i := by omega
                  go_wp2_with (first
                    | (refine wpList_append_ints_at rfl (.tmp 85) (.tmp 96) rfl w5.heap.size g cap (zs.take (j + i)) r (by rw [ival, htl.out]; rfl) (hI.alloc _) ⟨wr.heap.size, 0, none⟩ 1 rfl ((Own.new _ _ _).cell 0) (by rw [htl.out]; omega) (by simp; omega) ?_; intro g2 cap2 w8 hI8 hG8 hat))
                  have hK8 := (hK.alloc _).grown hG8 (fun e => hg e.symm)
                  have hb8 : Below w5.heap.size wr w8 := ((Below.refl w5.heap.size wr).alloc (by omega) _).grown hG8 (by simp; omega) (fun k e => by simp at e; omega)
                  have hT8 := hT.below hb8 hs5
                  have hg8 : g2 ≠ (w5.heap.size + 1) := by rcases hat with rfl | rfl; exact hg; simp; omega
                  have hsz8 : (w5.heap.size + 1) < w8.heap.size := Nat.lt_of_lt_of_le hsz hb8.size
                  rw [← hst.out] at hI8
                  clear hI hK hT hG8 hb8 hat
                  go_wp2
                  go_roundw
                  case rel => exact ⟨i + 1, g2, cap2, by omega, by go_num, by simp [ival, htl.out]; try omega, by rw [← Nat.add_assoc]; exact hI8, hg8, hK8, hT8, hsz8⟩
                  case measure => simp [intOf]; omega
                · obtain rfl : i = j := by omega
                  obtain ⟨M, hM⟩ : ∃ M, i + i = M := ⟨_, rfl⟩
                  rw [hM] at hI ⊢
                  have hMM := Lib.hid (show M = 2 * i by omega)
                  have hzM := Lib.hid (show zs.length = M + i by rw [hzl.out]; omega)
                  have HI := Lib.hid hI
                  have hML := Lib.hid (show (zs.take M).length = M by simp; rw [hzM.out]; omega)
                  have hK' := Lib.hid hK
                  have hT' := Lib.hid hT
                  have hM8 : M ≤ 8 := by omega
                  have hgI := hI.1
                  have hglt := hI.lt
                  have hrdI := Lib.hid (fun j (h : j < M) wq (hq : Ints wq w5.heap.size g cap (zs.take M)) => (by have := hq.cell j (by rw [hML.out]; exact h); rwa [getD_take _ _ _ h] at this : wq.cell? ⟨g, j, none⟩ = some (.int .i64 (zs.getD j 0))))
                  clear hI hK hT htl hM
                  go_wp2
                  obtain ⟨w8, rfl⟩ : ∃ x, x = wr := ⟨_, rfl⟩
                  go_loopw [17] (fun q wr => ∃ j : Nat, j ≤ M ∧ q = .int .i64 j ∧ Ints wr w5.heap.size g cap (zs.take M) ∧ Own wr (w5.heap.size + 1) (bcells (kp zs j)) 39 ∧ Tms w i ms es L wr) (fun x _ => ((M : Int) - intOf x).toNat)
                  case atStart => exact ⟨0, by omega, rfl, HI.out, hK'.out, hT'.out⟩
                  case round =>
                    clear HI hK' hT'
                    obtain ⟨j, hj, rfl, hI, hK, hT⟩ := hrel
                    by_cases hlt5 : j < M
                    · have i1 : (j : Int) < (M : Int) := by omega
                      have hzj := hzi.out j (by rw [hzM.out]; omega)
                      have c1 := hrdI.out j hlt5 wr hI
                      have hkl := kp_len zs j
                      have hst := kp_step zs j (by rw [hzM.out]; omega) hzj.1 hzj.2
                      have c2 := hK.cell (zs.getD j 0).toNat
                      rw [bcells_get _ _ (by omega)] at c2
                      have f2 := hK.free (zs.getD j 0).toNat
                      have hK2 := hK.set (zs.getD j 0).toNat (.bool true)
                      rw [bcells_set, hst] at hK2
                      have hb2 : Below w5.heap.size wr (wr.setCell ⟨(w5.heap.size + 1), (zs.getD j 0).toNat, none⟩ (.bool true)) := Below.setCell (p := ⟨(w5.heap.size + 1), (zs.getD j 0).toNat, none⟩) (Below.refl _ _) (by simp) _
                      have hT2 := hT.below hb2 hs5
                      have hI2 := hI.only (Only.set (w5.heap.size + 1) (zs.getD j 0).toNat wr (.bool true)) hg
                      have K1 := Lib.hid hK2
                      have K2 := Lib.hid hT2
                      have K3 := Lib.hid hI2
                      obtain ⟨r0, r16⟩ := hzj
                      clear hK2 hT2 hI2 hb2 hst hkl hI hK hT
                      generalize (kp zs j).getD (zs.getD j 0).toNat false = bb at *
                      generalize zs.getD j 0 = r at *
                      go_wp2
                      go_roundw
                      case rel => exact ⟨j + 1, by omega, by go_num, K3.out, K1.out, K2.out⟩
                      case measure => simp [intOf]; omega
                    · obtain rfl : j = M := by omega
                      have HI := Lib.hid hI
                      have hK' := Lib.hid hK
                      have hT' := Lib.hid hT
                      clear hI hK hT
                      go_wp2
                      obtain ⟨w9, rfl⟩ : ∃ x, x = wr := ⟨_, rfl⟩
                      go_loopw [18, 19] (fun cv q wr => ∃ m : Nat, m ≤ i ∧ q = .int .i64 m ∧ cv = .int .i64 (cn zs j m : Nat) ∧ Ints wr w5.heap.size g cap (zs.take j) ∧ Own wr (w5.heap.size + 1) (bcells (kp zs (j + m))) 39 ∧ Tms w i ms es L wr) (fun _ x _ => ((i : Int) - intOf x).toNat)
                      case atStart => exact ⟨0, by omega, rfl, rfl, HI.out, hK'.out, hT'.out⟩
                      case round =>
                        clear HI hK' hT'
                        obtain ⟨m, hm, rfl, rfl, hI, hK, hT⟩ := hrel
                        have hcl := cn_le zs j m
                        by_cases hlt6 : m < i
                        · have i1 : (m : Int) < (i : Int) := by omega
                          have x1 := hA'.out (i + m)
                          have k1 := hT.o.cell (1 + (i + m))
                          rw [dcells_get _ _ _ (by rw [hl.out]; omega)] at k1
                          have hzz := hz2.out m hlt6
                          rw [show 2 * i + m = j + m by have := hMM.out; omega] at hzz
                          have hzj := hzi.out (j + m) (by rw [hzM.out]; omega)
                          have c1 := hT.l.cell (ms.getD (i + m) 0).toNat
                          rw [icells_get _ _ (by rw [hll.out]; omega), ← hzz] at c1
                          have hseen := kp_seen zs (j + m) (by rw [hzM.out]; omega) (zs.getD (j + m) 0) hzj.1 hzj.2
                          have hkl := kp_len zs (j + m)
                          have c2 := hK.cell (zs.getD (j + m) 0).toNat
                          rw [bcells_get _ _ (by omega), hseen] at c2
                          have f2 := hK.free (zs.getD (j + m) 0).toNat
                          have hstc : cn zs j (m + 1) = if fi zs (zs.getD (j + m) 0) < j + m then cn zs j m else cn zs j m + 1 := rfl
                          have hb3 : 0 ≤ (i : Int) + (m : Int) := by omega
                          have hb4 : (i : Int) + (m : Int) < 8 := by omega
                          have hb5 : ((i : Int) + (m : Int)).toNat = i + m := by omega
                          by_cases hs : fi zs (zs.getD (j + m) 0) < j + m
                          · have hsm := kp_same zs (j + m) (by rw [hzM.out]; omega) hs
                            have K1 := Lib.hid (show Own wr (w5.heap.size + 1) (bcells (kp zs (j + (m + 1)))) 39 by rw [← Nat.add_assoc, hsm]; exact hK)
                            rw [if_pos hs] at hstc
                            have HSC := Lib.hid hstc
                            have hd : decide (fi zs (zs.getD (j + m) 0) < j + m) = true := decide_eq_true hs
                            rw [hd] at c2
                            have K2 := Lib.hid hT
                            have K3 := Lib.hid hI
                            obtain ⟨r0, r16⟩ := hzj
                            obtain ⟨x0, x8⟩ := x1
                            clear hs hsm hstc hd hseen hzz hkl hI hK hT
                            generalize zs.getD (j + m) 0 = r at *
                            generalize ms.getD (i + m) 0 = x at *
                            generalize hcn : cn zs j m = cc at *
                            go_wp2
                            go_roundw
                            case rel => exact ⟨m + 1, by omega, by go_num, by rw [HSC.out], K3.out, K1.out, K2.out⟩
                            case measure => simp [intOf]; omega
                          · have hst := kp_step zs (j + m) (by rw [hzM.out]; omega) hzj.1 hzj.2
                            rw [if_neg hs] at hstc
                            have HSC := Lib.hid hstc
                            have hd : decide (fi zs (zs.getD (j + m) 0) < j + m) = false := decide_eq_false hs
                            rw [hd] at c2
                            have hK2 := hK.set (zs.getD (j + m) 0).toNat (.bool true)
                            rw [bcells_set, hst, Nat.add_assoc] at hK2
                            have hb2 : Below w5.heap.size wr (wr.setCell ⟨(w5.heap.size + 1), (zs.getD (j + m) 0).toNat, none⟩ (.bool true)) := Below.setCell (p := ⟨(w5.heap.size + 1), (zs.getD (j + m) 0).toNat, none⟩) (Below.refl _ _) (by simp) _
                            have K1 := Lib.hid hK2
                            have K2 := Lib.hid (hT.below hb2 hs5)
                            have K3 := Lib.hid (hI.only (Only.set (w5.heap.size + 1) (zs.getD (j + m) 0).toNat wr (.bool true)) hg)
                            obtain ⟨r0, r16⟩ := hzj
                            obtain ⟨x0, x8⟩ := x1
                            clear hs hst hstc hd hseen hzz hkl hI hK hT hK2 hb2
                            generalize zs.getD (j + m) 0 = r at *
                            generalize ms.getD (i + m) 0 = x at *
                            generalize hcn : cn zs j m = cc at *
                            go_wp2
                            go_roundw
                            case rel => exact ⟨m + 1, by omega, by go_num, by rw [HSC.out]; go_num, K3.out, K1.out, K2.out⟩
                            case measure => simp [intOf]; omega
                        · obtain rfl : m = i := by omega
                          have hj2 := hMM.out
                          have hpm := Lib.hid (toldS_any g 0 cap j (m : Int) (zs.take j) wr hML.out (by omega) (by omega) hI.lt hI.rdf)
                          have hR := hT.r
                          have hBz := hT.b
                          have htt := Lib.hid (show told (zs.take j) = prP m ms es by rw [HPR.out, hj2])
                          have hcc := Lib.hid (show cn zs j m = prC m ms es by rw [HPC.out, hj2])
                          have htl := Lib.hid (told_len (zs.take j) (by rw [hML.out]; omega))
                          rw [htt.out] at hpm htl
                          rw [hcc.out]
                          clear hI hK hT hj2 hcl
                          go_wp2_with (first
                            | (go_at_call 52; ((with_reducible refine (hpm.out).mono ?_); rintro e w10 ⟨rfl, hB10⟩))
                            | (refine wpList_store_own rfl 31 _ _ rfl _ _ rfl rfl 31 _ (hR.below hB10 hR.lt) (rowP (d9 _ _ (htl.out))) (z_eq8 (d9 _ _ htl.out)) (dcells_one _ _) ?_; intro w11 hO11 hN11))
                          refine bodyPost_ret (v := .tuple #[.agg (dcells m (prP m ms es)), .int .i64 (prC m ms es : Nat)]) (results_row_tmp rfl _ _ _ _ _ (0, 0) _ rfl (hO11) Try.underlying31 rfl (rowP (d9 _ _ (htl.out))) _ rfl) rfl (⟨rfl, (hBz.trans (hB10.mono hBz.size)).trans (hN11.below.mono (by omega))⟩)
end Go.Proofs.Ytlgdeciikliihaa
