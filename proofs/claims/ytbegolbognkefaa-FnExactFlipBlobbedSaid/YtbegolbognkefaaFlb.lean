/- FlipBlobbed: the answers and the law. -/
import Derived.Test.YtbegolbognkefaaBtx
import Derived.Test.YtbegolbognkefaaLawFlip
import Derived.Test.YtbegolbognkefaaOnS
import Derived.Deep.CutRange
namespace Go.Proofs.Ytbegolbognkefaa
open Go.RowKit Go.Lib
set_option linter.unusedVariables false
set_option linter.unusedSimpArgs false
/-- The blobs of the first k points, turned. -/
def flB (n : Int) (bs : List Bool) : Nat → List Bool
  | 0 => zbs
  | k + 1 => (flB n bs k).set (((k : Int) + n) % (2 * n)).toNat (bs.getD k false)
theorem flB_len (n : Int) (bs : List Bool) (k : Nat) : (flB n bs k).length = 16 := by
  induction k with
  | zero => rfl
  | succ k ih => rw [flB, List.length_set, ih]
/-- The mates of the flip. -/
def flM (n : Int) (ms : List Int) : List Int := stL (fun i => (i + n) % (2 * n)) ms (2 * n).toNat
theorem flM_len (n : Int) (ms : List Int) : (flM n ms).length = 16 := stL_len _ _ _
theorem flipI_M (n : Int) (ms : List Int) (hms : ms.length = 16) (hb : Bytes ms) (hd : isD n ms = true) (w : World) :
    Calls Try.prog 55 #[.agg (dcells n ms)] w fun e w' => e = .returned (.tuple #[.agg (dcells n (flM n ms)), .int .i64 0]) ∧ Below w.heap.size w w' := by
  have hIs := (isD_iff n ms hms hb).1 hd
  have e := mv_eq_st (f := fun i => (i + n) % (2 * n)) hb hIs (fun i h0 h2 => flipC_bd n i hIs.1.1 hIs.1.2 h0 h2) (fun i j a b c d h => flipC_inj n i j ⟨a, b⟩ ⟨c, d⟩ h)
  have hI := FlipDiagramI_ok n ms hms hb hd w
  rw [e] at hI
  exact hI
set_option maxRecDepth 100000 in
set_option maxHeartbeats 4000000 in
theorem flbI_ok (n : Int) (ms : List Int) (bs : List Bool) (hms : ms.length = 16) (hbs : bs.length = 16) (hb : Bytes ms) (hd : isB n ms bs = true) (w : World) :
    Calls Try.prog 29 #[.agg (bcl n ms bs)] w fun e w' => e = .returned (.tuple #[.agg (bcl n (flM n ms) (flB n bs (2 * n).toNat)), .int .i64 0]) ∧ Below w.heap.size w w' := by
  have hl := Lib.hid hms
  have hk := Lib.hid hbs
  have hc := Lib.hid (fun w => isBlI_any n ms bs hms hbs hb w)
  rw [hd] at hc
  have hD := isB_isD hd
  have hIs := (isD_iff n ms hms hb).1 hD
  obtain ⟨h1, h8⟩ := hIs.1
  have hfl := Lib.hid (fun w => flipI_M n ms hms hb hD w)
  have hml := Lib.hid (flM_len n ms)
  obtain ⟨F, hF⟩ : ∃ F, flM n ms = F := ⟨_, rfl⟩
  rw [hF] at hfl hml ⊢
  obtain ⟨N, hN⟩ : ∃ N, (2 * n).toNat = N := ⟨_, rfl⟩
  rw [hN]
  have hN2 : (N : Int) = 2 * n := by omega
  have hcc0 := Lib.hid (bcl_zero n ms bs)
  clear hms hbs hb hd hD hIs hF hN
  go_enter Try.func29, Try.ntmps29
  go_wp2_with (first
    | (refine wpList_load_row rfl 38 _ rfl _ rfl 38 _ (0, 0) _ ((Own.new _ _ _).alloc _) Try.underlying38 rfl (rowB (b33 _ _ _ (hl.out) (hk.out))) ?_)
    | ((go_at_call 20; ((with_reducible refine (hc.out _).mono ?_); rintro e w1 ⟨rfl, hB1⟩)); have hO1 : Own w1 w.heap.size (bcl n ms bs) 38 := ((Own.new _ _ _).alloc _).below hB1 (by simp <;> omega); have hZ1 : Own w1 (w.heap.size + 1) zbl 38 := (Own.at _ _ _ (by simp)).below hB1 (by simp); have b1 := (((Below.refl w.heap.size w).alloc (Nat.le_refl _) (.cells (bcl n ms bs) 38)).alloc (by simp) (.cells zbl 38)).trans (hB1.mono (by simp; omega)); have c0 := hO1.cell 0; rw [hcc0.out] at c0)
    | (refine wpList_load_part rfl 28 _ rfl _ 0 rfl (dcells _ _) _ (Own.bdia (hO1) (hl.out)) Try.underlying28 rfl (row26 (d17 _ _ (hl.out))) ?_)
    | ((go_at_call 55; ((with_reducible refine (hfl.out _).mono ?_); rintro e w2 ⟨rfl, hB2⟩)); have hO2 := hO1.below hB2 hO1.lt; have hZ2 := hZ1.below hB2 hZ1.lt; have b2 := b1.trans (hB2.mono b1.size))
    | (refine wpList_store_own rfl 28 _ _ rfl _ _ rfl rfl 28 _ (Own.new w2 _ _) (row26 (d17 _ _ (hml.out))) (z_eq (d17 _ _ hml.out)) (dcells_one _ _) ?_; intro w3 hO3 hN3)
    | (refine wpList_load_row rfl 28 _ rfl _ rfl 28 _ (0, 0) _ (hO3) Try.underlying28 rfl (row26 (d17 _ _ (hml.out))) ?_)
    | (refine wpList_build_of rfl 38 #[(0, .tmp 22)] rfl (bcl n F zbs) ?_ ?_; (exact builtB1 _ _ hml.out))
    | (refine wpList_store_own rfl 38 _ _ rfl _ _ rfl rfl 38 _ (Own.new w3 _ _) (rowB (b33 _ _ _ (hml.out) (zbsl))) (zb _ _ _ hml.out zbsl) (bcl_one _ _ _) ?_; intro w4 hO4 hN4))
  have s3 : w3.heap.size = w2.heap.size + 1 := by rw [hN3.size]; simp
  have l2 := hO2.lt
  have l3 := hZ2.lt
  have s2 := b2.size
  have nO : Own w4 w.heap.size (bcl n ms bs) 38 := (((hO2.alloc _).only hN3 (by omega)).alloc _).only hN4 (by omega)
  have nZ : Own w4 (w.heap.size + 1) zbl 38 := (((hZ2.alloc _).only hN3 (by omega)).alloc _).only hN4 (by omega)
  have nF : Own w4 w3.heap.size (bcl n F (flB n bs 0)) 38 := hO4
  have nB : Below w.heap.size w w4 := (((b2.alloc s2 _).trans (hN3.below.mono s2)).alloc (by omega) _).trans (hN4.below.mono (by omega))
  obtain ⟨gb, hgb⟩ : ∃ x, x = w3.heap.size := ⟨_, rfl⟩
  rw [← hgb] at nF ⊢
  have d1 : w.heap.size ≠ gb := by omega
  have d2 : w.heap.size + 1 ≠ gb := by omega
  have d3 : w.heap.size ≤ gb := by omega
  clear hgb s3 l2 l3 s2 hO1 hZ1 hO2 hZ2 hO3 hO4 hN3 hN4 hB1 hB2 b1 b2 hc hfl c0
  go_loopw [26] (fun i wr => ∃ k : Nat, k ≤ N ∧ i = .int .i64 k ∧ Own wr w.heap.size (bcl n ms bs) 38 ∧ Own wr gb (bcl n F (flB n bs k)) 38 ∧ Own wr (w.heap.size + 1) zbl 38 ∧ Below w.heap.size w wr) (fun i _ => (N - intOf i).toNat)
  case atStart => exact ⟨0, by omega, rfl, nO, nF, nZ, nB⟩
  case round =>
    clear nO nF nZ nB
    obtain ⟨k, hkN, rfl, hO, hF, hZ, hB⟩ := hrel
    have hfl := flB_len n bs k
    by_cases hlt : k < N
    · obtain ⟨y, hy⟩ : ∃ y, ((k : Int) + n) % (2 * n) = y := ⟨_, rfl⟩
      have yb := flipC_bd n k h1 h8 (by omega) (by omega)
      rw [hy] at yb
      obtain ⟨y0, y16⟩ := yb
      have hy2 : ((k : Int) + n).tmod (2 * n) = y := by rw [Int.tmod_eq_emod_of_nonneg (by omega)]; exact hy
      obtain ⟨v, hv⟩ : ∃ v, bs.getD k false = v := ⟨_, rfl⟩
      have hst := Lib.hid (show flB n bs (k + 1) = (flB n bs k).set y.toNat v by rw [flB, hy, hv])
      have hc1 := Lib.hid (show ∀ wd, Own wd w.heap.size (bcl n ms bs) 38 → wd.cell? ⟨w.heap.size, 17 + k, none⟩ = some (.bool v) from fun wd h => by rw [h.cell, bcl_blob _ _ _ hl.out k (by rw [hk.out]; omega), hv])
      have k16 : (k : Int) < 16 := by omega
      have kN : (k : Int) < 2 * n := by omega
      have n0 : ¬ (2 * n = 0) := by omega
      have z1 : IntKind.i64.wrap ((k : Int) + n) = (k : Int) + n := IntWalk.i64_in _ (by omega)
      have z2 : IntKind.i64.wrap (2 * n) = 2 * n := IntWalk.i64_in _ (by omega)
      have z3 : IntKind.i64.wrap y = y := IntWalk.i64_in _ (by omega)
      have Y1 := Lib.hid hy
      clear hv hy
      go_upto_region 9 with fail
      refine gen_world (fun x => Own x w.heap.size (bcl n ms bs) 38 ∧ Own x gb (bcl n F (flB n bs k)) 38 ∧ Own x (w.heap.size + 1) zbl 38 ∧ Below w.heap.size w x) ⟨hO, hF, hZ, hB⟩ ?_
      clear hO hF hZ hB
      rintro wx ⟨hO, hF, hZ, hB⟩
      refine wp_region_st (fun x => Own x w.heap.size (bcl n ms bs) 38) [(true, 0), (true, 1), (true, 2), (true, 3), (true, 4), (true, 5), (true, 6), (true, 7), (true, 8), (true, 9), (true, 10), (true, 11)] 12 (by kernel_rfl) (by kernel_rfl) (hO.drewN 1) ?_
      have hOd : Own { wx with drawn := wx.drawn + 1 } w.heap.size (bcl n ms bs) 38 := hO
      have hFd : Own { wx with drawn := wx.drawn + 1 } gb (bcl n F (flB n bs k)) 38 := hF
      have hZd : Own { wx with drawn := wx.drawn + 1 } (w.heap.size + 1) zbl 38 := hZ
      have hBd : Below w.heap.size w { wx with drawn := wx.drawn + 1 } := hB.drew
      clear hO hF hZ hB
      generalize ({ wx with drawn := wx.drawn + 1 } : World) = w8 at *
      simp only [List.map_cons, List.map_nil, opS'_mk, opN_zero, opN_succ, List.drop_succ_cons, List.drop_zero]
      (apply wpSt_read; · (intro wd hS K hK; clear hS; go_simp; exact hK))
      (apply wpSt_read; · (intro wd hS K hK; clear hS; go_simp; exact hK))
      (apply wpSt_read; · (intro wd hS K hK; clear hS; go_simp; exact hK))
      (apply wpSt_read; · (intro wd hS K hK; clear hS; go_simp; exact hK))
      (apply wpSt_read; · (intro wd hS K hK; clear hS; go_simp; exact hK))
      (apply wpSt_read; · (intro wd hS K hK; clear hS; go_simp; exact hK))
      (apply wpSt_read; · (intro wd hS K hK; clear hS; go_simp; exact hK))
      (apply wpSt_read; · (intro wd hS K hK; clear hS; go_simp; exact hK))
      (apply wpSt_read; · (intro wd hS K hK; clear hS; go_simp; exact hK))
      (apply wpSt_read; · (intro wd hS K hK; have d3 := hc1.out wd hS; clear hS; go_simp; exact hK))
      (apply wpSt_read; · (intro wd hS K hK; clear hS; go_simp; exact hK))
      (apply wpSt_read; · (intro wd hS K hK; clear hS; go_simp; exact hK))
      refine wpSt_nil ?_
      have e1 := hFd.cell (17 + y.toNat)
      rw [bcl_blob _ _ _ hml.out _ (by rw [hfl]; omega)] at e1
      have e2 := hFd.free (17 + y.toNat)
      have hF2 := hFd.set (17 + y.toNat) (.bool v)
      rw [bcl_set _ _ _ hml.out, ← hst.out] at hF2
      have K1 := Lib.hid hF2
      have K2 := Lib.hid (hOd.other (a := ⟨gb, 17 + y.toNat, none⟩) (fun h => d1 h.symm) (.bool v))
      have K3 := Lib.hid (hZd.other (a := ⟨gb, 17 + y.toNat, none⟩) (fun h => d2 h.symm) (.bool v))
      have K4 := Lib.hid (hBd.setCell (p := ⟨gb, 17 + y.toNat, none⟩) d3 (.bool v))
      clear hOd hFd hZd hBd hF2
      go_wp2
      go_roundw
      case rel => exact ⟨k + 1, by omega, by go_num, K2.out, K1.out, K3.out, K4.out⟩
      case measure => simp [intOf]; omega
    · have e : k = N := by omega
      subst e
      go_wp2_with (first
        | (refine wpList_load_row rfl 38 _ rfl _ rfl 38 _ (0, 0) _ (hF) Try.underlying38 rfl (rowB (b33 _ _ _ (hml.out) (hfl))) ?_)
        | (refine wpList_store_own rfl 38 _ _ rfl _ _ rfl rfl 38 _ (hZ) (rowB (b33 _ _ _ (hml.out) (hfl))) (zb _ _ _ hml.out hfl) (bcl_one _ _ _) ?_; intro w4 hO4 hN4))
      refine bodyPost_ret (v := .tuple #[.agg (bcl n F (flB n bs k)), .int .i64 0]) (results_row_tmp rfl _ _ _ _ _ (0, 0) _ rfl (hO4) Try.underlying38 rfl (rowB (b33 _ _ _ (hml.out) (hfl))) _ rfl) rfl (⟨rfl, hB.trans (hN4.below.mono (by omega))⟩)
set_option maxRecDepth 100000 in
set_option maxHeartbeats 4000000 in
theorem flbS_ok (n : Int) (ms : List Int) (bs : List Bool) (hms : ms.length = 16) (hbs : bs.length = 16) (hb : Bytes ms) (hd : isB n ms bs = true) (w : World) :
    Calls Try.prog 28 #[.agg (bcl n ms bs)] w fun e w' => e = .returned (.tuple #[.agg (bcl n (flM n ms) (flB n bs (2 * n).toNat)), .int .i64 0]) ∧ Below w.heap.size w w' := by
  have hl := Lib.hid hms
  have hk := Lib.hid hbs
  have hc := Lib.hid (fun w => isBS_any n ms bs hms hbs hb w)
  rw [hd] at hc
  have hD := isB_isD hd
  have hIs := (isD_iff n ms hms hb).1 hD
  obtain ⟨h1, h8⟩ := hIs.1
  have hfl := Lib.hid (fun w => flipS_any n ms hms hb hIs w)
  have hml := Lib.hid (flM_len n ms)
  obtain ⟨F, hF⟩ : ∃ F, flM n ms = F := ⟨_, rfl⟩
  have e0 : stL (fun i => (i + n) % (2 * n)) ms (2 * n).toNat = F := hF
  rw [e0] at hfl
  rw [hF] at hml ⊢
  obtain ⟨N, hN⟩ : ∃ N, (2 * n).toNat = N := ⟨_, rfl⟩
  rw [hN]
  have hN2 : (N : Int) = 2 * n := by omega
  have hcc0 := Lib.hid (bcl_zero n ms bs)
  clear hms hbs hb hd hD hIs hF hN
  clear e0
  go_enter Try.func28, Try.ntmps28
  go_upto_region 3 with (first
    | (refine wpList_load_row rfl 38 _ rfl _ rfl 38 _ (0, 0) _ ((Own.new _ _ _).alloc _) Try.underlying38 rfl (rowB (b33 _ _ _ (hl.out) (hk.out))) ?_)
    | ((go_at_call 43; ((with_reducible refine (hc.out _).mono ?_); rintro e w1 ⟨rfl, hB1⟩)); have hO1 : Own w1 w.heap.size (bcl n ms bs) 38 := ((Own.new _ _ _).alloc _).below hB1 (by simp <;> omega); have hZ1 : Own w1 (w.heap.size + 1) zbl 38 := (Own.at _ _ _ (by simp)).below hB1 (by simp); have b1 := (((Below.refl w.heap.size w).alloc (Nat.le_refl _) (.cells (bcl n ms bs) 38)).alloc (by simp) (.cells zbl 38)).trans (hB1.mono (by simp; omega))))
  obtain ⟨wd, hwd⟩ : ∃ x, ({ w1 with drawn := w1.drawn + 1 } : World) = x := ⟨_, rfl⟩
  have hOd : Own wd w.heap.size (bcl n ms bs) 38 := by rw [← hwd]; exact hO1
  have hZd : Own wd (w.heap.size + 1) zbl 38 := by rw [← hwd]; exact hZ1
  have hBd : Below w.heap.size w wd := by rw [← hwd]; exact b1.drew
  have l2 := hOd.lt
  have l3 := hZd.lt
  clear hO1 hZ1 b1 hB1 hc
  refine wp_region_facts (by kernel_rfl) (by kernel_rfl) (fun a w' => ∃ x4 x5 x11 x12 x13 x14 x15 x16 x17 : Value, a = ⟨List.toArray [.agg (bcl n ms bs), .pointer (some ⟨w.heap.size, 0, none⟩), .pointer (some ⟨w.heap.size + 1, 0, none⟩), .int .i64 0, x4, x5, undef, .agg (bcl n ms bs), .bool true, .bool false, undef, x11, x12, x13, x14, x15, x16, x17, undef, undef, undef, undef, undef, undef, undef, undef, undef, undef, undef, undef, undef, undef, undef, undef, undef, undef, undef], []⟩ ∧ Below wd.heap.size wd w') (fun j a w' => match j with | 0 => sl a 11 = .pointer (some ⟨w.heap.size, 0, none⟩) | 1 => sl a 12 = .pointer (some ⟨w.heap.size, 0, none⟩) | 2 => sl a 13 = .int .i64 n | 3 => sl a 14 = .pointer (some ⟨w.heap.size, 0, none⟩) | 4 => sl a 15 = .agg (dcells n ms) | 5 => sl a 16 = .agg (dcells n F) | 6 => sl a 17 = .agg (bcl n F zbs) | 7 => ∃ g, wd.heap.size ≤ g ∧ sl a 5 = .pointer (some ⟨g, 0, none⟩) ∧ ∃ cs, cs.size = 33 ∧ Own w' g cs 38 | 8 => sl a 4 = .int .i64 n | 9 => ∃ g, wd.heap.size ≤ g ∧ sl a 5 = .pointer (some ⟨g, 0, none⟩) ∧ Own w' g (bcl n F zbs) 38 | _ => True) ⟨_, _, _, _, _, _, _, _, _, rfl, by rw [← hwd]; exact Below.refl _ _⟩ ?_ ?_
  · refine (AllOps.cons ?_ (AllOps.cons ?_ (AllOps.cons ?_ (AllOps.cons ?_ (AllOps.cons ?_ (AllOps.cons ?_ (AllOps.cons ?_ (AllOps.cons ?_ (AllOps.cons ?_ (AllOps.cons ?_ AllOps.nil))))))))))
    · rintro a w0 ⟨x4, x5, x11, x12, x13, x14, x15, x16, x17, rfl, hB⟩ hd K hK
      go_wp2
      refine hK _ _ ⟨_, _, _, _, _, _, _, _, _, rfl, hB⟩ (rfl) ?_
      rintro (_|_|_|_|_|_|_|_|_|_|_) hj hn h <;> first | exact h | exact absurd rfl hj | exact waits_no hn (by kernel_rfl)
    · rintro a w0 ⟨x4, x5, x11, x12, x13, x14, x15, x16, x17, rfl, hB⟩ hd K hK
      have d0 : x11 = _ := hd 0 (by kernel_rfl)
      subst d0
      go_wp2
      refine hK _ _ ⟨_, _, _, _, _, _, _, _, _, rfl, hB⟩ (rfl) ?_
      rintro (_|_|_|_|_|_|_|_|_|_|_) hj hn h <;> first | exact h | exact absurd rfl hj | exact waits_no hn (by kernel_rfl)
    · rintro a w0 ⟨x4, x5, x11, x12, x13, x14, x15, x16, x17, rfl, hB⟩ hd K hK
      have d0 : x12 = _ := hd 1 (by kernel_rfl)
      subst d0
      have c0 := (hOd.below hB l2).cell 0
      rw [hcc0.out] at c0
      go_wp2
      refine hK _ _ ⟨_, _, _, _, _, _, _, _, _, rfl, hB⟩ (rfl) ?_
      rintro (_|_|_|_|_|_|_|_|_|_|_) hj hn h <;> first | exact h | exact absurd rfl hj | exact waits_no hn (by kernel_rfl)
    · rintro a w0 ⟨x4, x5, x11, x12, x13, x14, x15, x16, x17, rfl, hB⟩ hd K hK
      go_wp2
      refine hK _ _ ⟨_, _, _, _, _, _, _, _, _, rfl, hB⟩ (rfl) ?_
      rintro (_|_|_|_|_|_|_|_|_|_|_) hj hn h <;> first | exact h | exact absurd rfl hj | exact waits_no hn (by kernel_rfl)
    · rintro a w0 ⟨x4, x5, x11, x12, x13, x14, x15, x16, x17, rfl, hB⟩ hd K hK
      have d0 : x14 = _ := hd 3 (by kernel_rfl)
      subst d0
      go_wp2_with (first | (refine wpList_load_part rfl 28 _ rfl _ 0 rfl (dcells _ _) _ (Own.bdia (hOd.below hB l2) (hl.out)) Try.underlying28 rfl (row26 (d17 _ _ (hl.out))) ?_))
      refine hK _ _ ⟨_, _, _, _, _, _, _, _, _, rfl, hB⟩ (rfl) ?_
      rintro (_|_|_|_|_|_|_|_|_|_|_) hj hn h <;> first | exact h | exact absurd rfl hj | exact waits_no hn (by kernel_rfl)
    · rintro a w0 ⟨x4, x5, x11, x12, x13, x14, x15, x16, x17, rfl, hB⟩ hd K hK
      have d0 : x15 = _ := hd 4 (by kernel_rfl)
      subst d0
      go_wp2_with (first | (go_at_call 54; ((with_reducible refine (hfl.out _).mono ?_); rintro e w2 ⟨rfl, hB2⟩)))
      refine hK _ _ ⟨_, _, _, _, _, _, _, _, _, rfl, hB.trans (hB2.mono hB.size)⟩ (rfl) ?_
      rintro (_|_|_|_|_|_|_|_|_|_|_) hj hn h <;> first | exact h | exact absurd rfl hj | (obtain ⟨g, hg, e, cs, hcs, hO⟩ := h; exact ⟨g, hg, e, cs, hcs, hO.below hB2 hO.lt⟩) | (obtain ⟨g, hg, e, hO⟩ := h; exact ⟨g, hg, e, hO.below hB2 hO.lt⟩) | exact waits_no hn (by kernel_rfl)
    · rintro a w0 ⟨x4, x5, x11, x12, x13, x14, x15, x16, x17, rfl, hB⟩ hd K hK
      have d0 : x16 = _ := hd 5 (by kernel_rfl)
      subst d0
      go_wp2_with (first | (refine wpList_build_of rfl 38 #[(0, .tmp 16)] rfl (bcl n F zbs) ?_ ?_; (exact builtB1 _ _ hml.out)))
      refine hK _ _ ⟨_, _, _, _, _, _, _, _, _, rfl, hB⟩ (rfl) ?_
      rintro (_|_|_|_|_|_|_|_|_|_|_) hj hn h <;> first | exact h | exact absurd rfl hj | exact waits_no hn (by kernel_rfl)
    · rintro a w0 ⟨x4, x5, x11, x12, x13, x14, x15, x16, x17, rfl, hB⟩ hd K hK
      go_wp2
      refine hK _ _ ⟨_, _, _, _, _, _, _, _, _, rfl, hB.alloc hB.size _⟩ (⟨_, hB.size, rfl, _, rfl, Own.new _ _ _⟩) ?_
      rintro (_|_|_|_|_|_|_|_|_|_|_) hj hn h <;> first | exact h | exact absurd rfl hj | exact waits_no hn (by kernel_rfl)
    · rintro a w0 ⟨x4, x5, x11, x12, x13, x14, x15, x16, x17, rfl, hB⟩ hd K hK
      have d0 : x13 = _ := hd 2 (by kernel_rfl)
      subst d0
      go_wp2
      refine hK _ _ ⟨_, _, _, _, _, _, _, _, _, rfl, hB⟩ (rfl) ?_
      rintro (_|_|_|_|_|_|_|_|_|_|_) hj hn h <;> first | exact h | exact absurd rfl hj | exact waits_no hn (by kernel_rfl)
    · rintro a w0 ⟨x4, x5, x11, x12, x13, x14, x15, x16, x17, rfl, hB⟩ hd K hK
      have d0 : x17 = _ := hd 6 (by kernel_rfl)
      have d8 := hd 7 (by kernel_rfl)
      obtain ⟨g, hg, e, cs, hcs, hO⟩ := d8
      have e : x5 = _ := e
      subst e
      subst d0
      go_wp2_with (first | (refine wpList_store_own rfl 38 _ _ rfl _ _ rfl rfl 38 _ (hO) (rowB (b33 _ _ _ (hml.out) (zbsl))) (by rw [hcs, b33 _ _ _ hml.out zbsl]) (bcl_one _ _ _) ?_; intro w2 hO2 hN2))
      refine hK _ _ ⟨_, _, _, _, _, _, _, _, _, rfl, hB.trans (hN2.below.mono hg)⟩ (⟨g, hg, rfl, hO2⟩) ?_
      rintro (_|_|_|_|_|_|_|_|_|_|_) hj hn h <;> first | exact h | exact absurd rfl hj | exact ⟨g, hg, rfl, _, b33 _ _ _ hml.out zbsl, hO2⟩ | exact waits_no hn (by kernel_rfl)
  · rintro a w1 ⟨x4, x5, x11, x12, x13, x14, x15, x16, x17, rfl, hB⟩ hF
    have e4 : x4 = _ := hF 8 (by decide)
    have d9 := hF 9 (by decide)
    obtain ⟨gb, hg, e5, hOg⟩ := d9
    have e5 : x5 = _ := e5
    subst e4 e5
    have nO := hOd.below hB l2
    have nZ := hZd.below hB l3
    have nF : Own w1 gb (bcl n F (flB n bs 0)) 38 := hOg
    have nB := hBd.trans (hB.mono hBd.size)
    have d1 : w.heap.size ≠ gb := by omega
    have d2 : w.heap.size + 1 ≠ gb := by omega
    have d3 : w.heap.size ≤ gb := by omega
    clear hOg hF hB hOd hZd hBd hg l2 l3 hfl hwd
    go_wp2
    go_loopw [6] (fun i wr => ∃ k : Nat, k ≤ N ∧ i = .int .i64 k ∧ Own wr w.heap.size (bcl n ms bs) 38 ∧ Own wr gb (bcl n F (flB n bs k)) 38 ∧ Own wr (w.heap.size + 1) zbl 38 ∧ Below w.heap.size w wr) (fun i _ => (N - intOf i).toNat)
    case atStart => exact ⟨0, by omega, rfl, nO, nF, nZ, nB⟩
    case round =>
      clear nO nF nZ nB
      obtain ⟨k, hkN, rfl, hO, hF, hZ, hB⟩ := hrel
      have hfl := flB_len n bs k
      by_cases hlt : k < N
      · obtain ⟨y, hy⟩ : ∃ y, ((k : Int) + n) % (2 * n) = y := ⟨_, rfl⟩
        have yb := flipC_bd n k h1 h8 (by omega) (by omega)
        rw [hy] at yb
        obtain ⟨y0, y16⟩ := yb
        have hy2 : ((k : Int) + n).tmod (2 * n) = y := by rw [Int.tmod_eq_emod_of_nonneg (by omega)]; exact hy
        obtain ⟨v, hv⟩ : ∃ v, bs.getD k false = v := ⟨_, rfl⟩
        have hst := Lib.hid (show flB n bs (k + 1) = (flB n bs k).set y.toNat v by rw [flB, hy, hv])
        have hc1 := Lib.hid (show ∀ wd, Own wd w.heap.size (bcl n ms bs) 38 → wd.cell? ⟨w.heap.size, 17 + k, none⟩ = some (.bool v) from fun wd h => by rw [h.cell, bcl_blob _ _ _ hl.out k (by rw [hk.out]; omega), hv])
        have k16 : (k : Int) < 16 := by omega
        have kN : (k : Int) < 2 * n := by omega
        have n0 : ¬ (2 * n = 0) := by omega
        have z1 : IntKind.i64.wrap ((k : Int) + n) = (k : Int) + n := IntWalk.i64_in _ (by omega)
        have z2 : IntKind.i64.wrap (2 * n) = 2 * n := IntWalk.i64_in _ (by omega)
        have z3 : IntKind.i64.wrap y = y := IntWalk.i64_in _ (by omega)
        have Y1 := Lib.hid hy
        clear hv hy
        go_upto_region 7 with fail
        refine gen_world (fun x => Own x w.heap.size (bcl n ms bs) 38 ∧ Own x gb (bcl n F (flB n bs k)) 38 ∧ Own x (w.heap.size + 1) zbl 38 ∧ Below w.heap.size w x) ⟨hO, hF, hZ, hB⟩ ?_
        clear hO hF hZ hB
        rintro wx ⟨hO, hF, hZ, hB⟩
        refine wp_region_st (fun x => Own x w.heap.size (bcl n ms bs) 38) [(true, 0), (true, 1), (true, 2), (true, 3), (true, 4), (true, 5), (true, 6), (true, 7), (true, 8), (true, 9), (true, 10), (true, 11)] 12 (by kernel_rfl) (by kernel_rfl) (hO.drewN 1) ?_
        have hOd : Own { wx with drawn := wx.drawn + 1 } w.heap.size (bcl n ms bs) 38 := hO
        have hFd : Own { wx with drawn := wx.drawn + 1 } gb (bcl n F (flB n bs k)) 38 := hF
        have hZd : Own { wx with drawn := wx.drawn + 1 } (w.heap.size + 1) zbl 38 := hZ
        have hBd : Below w.heap.size w { wx with drawn := wx.drawn + 1 } := hB.drew
        clear hO hF hZ hB
        generalize ({ wx with drawn := wx.drawn + 1 } : World) = w8 at *
        simp only [List.map_cons, List.map_nil, opS'_mk, opN_zero, opN_succ, List.drop_succ_cons, List.drop_zero]
        (apply wpSt_read; · (intro wd hS K hK; clear hS; go_simp; exact hK))
        (apply wpSt_read; · (intro wd hS K hK; clear hS; go_simp; exact hK))
        (apply wpSt_read; · (intro wd hS K hK; clear hS; go_simp; exact hK))
        (apply wpSt_read; · (intro wd hS K hK; clear hS; go_simp; exact hK))
        (apply wpSt_read; · (intro wd hS K hK; clear hS; go_simp; exact hK))
        (apply wpSt_read; · (intro wd hS K hK; clear hS; go_simp; exact hK))
        (apply wpSt_read; · (intro wd hS K hK; clear hS; go_simp; exact hK))
        (apply wpSt_read; · (intro wd hS K hK; clear hS; go_simp; exact hK))
        (apply wpSt_read; · (intro wd hS K hK; clear hS; go_simp; exact hK))
        (apply wpSt_read; · (intro wd hS K hK; have d3 := hc1.out wd hS; clear hS; go_simp; exact hK))
        (apply wpSt_read; · (intro wd hS K hK; clear hS; go_simp; exact hK))
        (apply wpSt_read; · (intro wd hS K hK; clear hS; go_simp; exact hK))
        refine wpSt_nil ?_
        have e1 := hFd.cell (17 + y.toNat)
        rw [bcl_blob _ _ _ hml.out _ (by rw [hfl]; omega)] at e1
        have e2 := hFd.free (17 + y.toNat)
        have hF2 := hFd.set (17 + y.toNat) (.bool v)
        rw [bcl_set _ _ _ hml.out, ← hst.out] at hF2
        have K1 := Lib.hid hF2
        have K2 := Lib.hid (hOd.other (a := ⟨gb, 17 + y.toNat, none⟩) (fun h => d1 h.symm) (.bool v))
        have K3 := Lib.hid (hZd.other (a := ⟨gb, 17 + y.toNat, none⟩) (fun h => d2 h.symm) (.bool v))
        have K4 := Lib.hid (hBd.setCell (p := ⟨gb, 17 + y.toNat, none⟩) d3 (.bool v))
        clear hOd hFd hZd hBd hF2
        go_wp2
        go_roundw
        case rel => exact ⟨k + 1, by omega, by go_num, K2.out, K1.out, K3.out, K4.out⟩
        case measure => simp [intOf]; omega
      · have e : k = N := by omega
        subst e
        go_wp2_with (first
          | (refine wpList_load_row rfl 38 _ rfl _ rfl 38 _ (0, 0) _ (hF) Try.underlying38 rfl (rowB (b33 _ _ _ (hml.out) (hfl))) ?_)
          | (refine wpList_store_own rfl 38 _ _ rfl _ _ rfl rfl 38 _ (hZ) (rowB (b33 _ _ _ (hml.out) (hfl))) (zb _ _ _ hml.out hfl) (bcl_one _ _ _) ?_; intro w4 hO4 hN4))
        refine bodyPost_ret (v := .tuple #[.agg (bcl n F (flB n bs k)), .int .i64 0]) (results_row_tmp rfl _ _ _ _ _ (0, 0) _ rfl (hO4) Try.underlying38 rfl (rowB (b33 _ _ _ (hml.out) (hfl))) _ rfl) rfl (⟨rfl, hB.trans (hN4.below.mono (by omega))⟩)
set_option maxRecDepth 100000 in
theorem flbS_bad (n : Int) (ms : List Int) (bs : List Bool) (hms : ms.length = 16) (hbs : bs.length = 16) (hb : Bytes ms) (hd : isB n ms bs = false) (w : World) :
    Calls Try.prog 28 #[.agg (bcl n ms bs)] w fun e w' => e = .returned (.tuple #[.agg (bcl 0 zeros zbs), .int .i64 1]) ∧ Below w.heap.size w w' := by
  have hl := Lib.hid hms
  have hk := Lib.hid hbs
  have hc := Lib.hid (fun w => isBS_any n ms bs hms hbs hb w)
  rw [hd] at hc
  clear hms hbs hb hd
  go_enter Try.func28, Try.ntmps28
  go_wp2_with (first
    | (refine wpList_load_row rfl 38 _ rfl _ rfl 38 _ (0, 0) _ ((Own.new _ _ _).alloc _) Try.underlying38 rfl (rowB (b33 _ _ _ (hl.out) (hk.out))) ?_)
    | ((go_at_call 43; ((with_reducible refine (hc.out _).mono ?_); rintro e w1 ⟨rfl, hB1⟩)); have hZ1 : Own w1 (w.heap.size + 1) zbl 38 := (Own.at _ _ _ (by simp)).below hB1 (by simp))
    | (refine wpList_build_of rfl 38 #[] rfl zbl ?_ ?_; (exact builtB0))
    | (refine wpList_store_own rfl 38 _ _ rfl _ _ rfl rfl 38 _ (hZ1) (rowB (b33 _ _ _ (zlen) (zbsl))) (rfl) (bcl_one _ _ _) ?_; intro w2 hO2 hN2))
  have b0 : Below w.heap.size w ((w.alloc (.cells (bcl n ms bs) 38)).alloc (.cells zbl 38)) := ((Below.refl _ _).alloc (Nat.le_refl _) _).alloc (by simp) _
  refine bodyPost_ret (v := .tuple #[.agg (zbl), .int .i64 1]) (results_row_tmp rfl _ _ _ _ _ (0, 0) _ rfl (hO2) Try.underlying38 rfl (rowB (b33 _ _ _ (zlen) (zbsl))) _ rfl) rfl (⟨rfl, (b0.trans (hB1.mono b0.size)).trans (hN2.below.mono (by omega))⟩)
set_option maxRecDepth 100000 in
theorem flbI_bad (n : Int) (ms : List Int) (bs : List Bool) (hms : ms.length = 16) (hbs : bs.length = 16) (hb : Bytes ms) (hd : isB n ms bs = false) (w : World) :
    Calls Try.prog 29 #[.agg (bcl n ms bs)] w fun e w' => e = .returned (.tuple #[.agg (bcl 0 zeros zbs), .int .i64 1]) ∧ Below w.heap.size w w' := by
  have hl := Lib.hid hms
  have hk := Lib.hid hbs
  have hc := Lib.hid (fun w => isBlI_any n ms bs hms hbs hb w)
  rw [hd] at hc
  clear hms hbs hb hd
  go_enter Try.func29, Try.ntmps29
  go_wp2_with (first
    | (refine wpList_load_row rfl 38 _ rfl _ rfl 38 _ (0, 0) _ ((Own.new _ _ _).alloc _) Try.underlying38 rfl (rowB (b33 _ _ _ (hl.out) (hk.out))) ?_)
    | ((go_at_call 20; ((with_reducible refine (hc.out _).mono ?_); rintro e w1 ⟨rfl, hB1⟩)); have hZ1 : Own w1 (w.heap.size + 1) zbl 38 := (Own.at _ _ _ (by simp)).below hB1 (by simp))
    | (refine wpList_build_of rfl 38 #[] rfl zbl ?_ ?_; (exact builtB0))
    | (refine wpList_store_own rfl 38 _ _ rfl _ _ rfl rfl 38 _ (hZ1) (rowB (b33 _ _ _ (zlen) (zbsl))) (rfl) (bcl_one _ _ _) ?_; intro w2 hO2 hN2))
  have b0 : Below w.heap.size w ((w.alloc (.cells (bcl n ms bs) 38)).alloc (.cells zbl 38)) := ((Below.refl _ _).alloc (Nat.le_refl _) _).alloc (by simp) _
  refine bodyPost_ret (v := .tuple #[.agg (zbl), .int .i64 1]) (results_row_tmp rfl _ _ _ _ _ (0, 0) _ rfl (hO2) Try.underlying38 rfl (rowB (b33 _ _ _ (zlen) (zbsl))) _ rfl) rfl (⟨rfl, (b0.trans (hB1.mono b0.size)).trans (hN2.below.mono (by omega))⟩)
set_option maxRecDepth 100000 in
set_option maxHeartbeats 1000000 in
theorem FlipBlobbed_walk (n : Int) (ms : List Int) (bs : List Bool) (hms : ms.length = 16) (hbs : bs.length = 16) (w : World) (m c : Int) (rs : List Int) (cs : List Bool) (hr : rs.length = 16) (hq : cs.length = 16)
    (hS : ∀ w, Calls Try.prog 28 #[.agg (bcl n ms bs)] w fun e w' => e = .returned (.tuple #[.agg (bcl m rs cs), .int .i64 c]) ∧ Below w.heap.size w w')
    (hI : ∀ w, Calls Try.prog 29 #[.agg (bcl n ms bs)] w fun e w' => e = .returned (.tuple #[.agg (bcl m rs cs), .int .i64 c]) ∧ Below w.heap.size w w') :
    Calls Try.prog 8 #[.agg (bcl n ms bs)] w fun e w' => e = .returned (.bool true) ∧ Below w.heap.size w w' := by
  have hS' := Lib.hid hS
  have hI' := Lib.hid hI
  have hl := Lib.hid hms
  have hk := Lib.hid hbs
  have hh := Lib.hid hr
  have hh2 := Lib.hid hq
  clear hS hI hms hbs hr hq
  go_enter Try.func8, Try.ntmps8
  go_wp2_with (first
    | (refine wpList_load_row rfl 35 _ rfl _ rfl 35 _ (0, 0) _ (Own.new w _ _) Try.underlying35 rfl (rowLB (b33 _ _ _ (hl.out) (hk.out))) ?_)
    | (go_at_call 19; ((with_reducible refine (toBl_any n ms bs hl.out hk.out w3).mono ?_); rintro e w4 ⟨rfl, hB4⟩; have b4 := b3.trans (hB4.mono b3.size)))
    | (go_at_call 19; ((with_reducible refine (toBl_any n ms bs hl.out hk.out _).mono ?_); rintro e w1 ⟨rfl, hB1⟩))
    | (go_at_call 28; ((with_reducible refine (hS'.out _).mono ?_); rintro e w2 ⟨rfl, hB2⟩; have hA2 : Own w2 w.heap.size (bcl n ms bs) 35 := ((Own.new w _ _).below hB1 (by simp)).below hB2 (Nat.lt_of_lt_of_le (by simp) hB1.size); have b2 : Below w.heap.size w w2 := (((Below.refl w.heap.size w).alloc (Nat.le_refl _) _).trans (hB1.mono (by simp))).trans (hB2.mono (Nat.le_trans (by simp) hB1.size))))
    | (go_at_call 29; ((with_reducible refine (hI'.out _).mono ?_); rintro e w5 ⟨rfl, hB5⟩; have hO5 : Own w5 w2.heap.size (bcl m rs cs) 38 := (hO3.below hB4 hO3.lt).below hB5 (Nat.lt_of_lt_of_le hO3.lt hB4.size); have b5 := b4.trans (hB5.mono b4.size)))
    | (refine wpList_load_row rfl 35 _ rfl _ rfl 35 _ (0, 0) _ ((hA2.alloc _).only hN3 (Nat.ne_of_lt hA2.lt)) Try.underlying35 rfl (rowLB (b33 _ _ _ (hl.out) (hk.out))) ?_)
    | (refine wpList_load_row rfl 38 _ rfl _ rfl 38 _ (0, 0) _ (hO6) Try.underlying38 rfl (rowB (b33 _ _ _ (hh.out) (hh2.out))) ?_)
    | (refine wpList_load_row rfl 38 _ rfl _ rfl 38 _ (0, 0) _ ((hO5.alloc _).only hN6 (Nat.ne_of_lt hO5.lt)) Try.underlying38 rfl (rowB (b33 _ _ _ (hh.out) (hh2.out))) ?_)
    | (go_at_call 25; refine (eqBl_same m rs cs hh.out hh2.out _).mono ?_; rintro e w7 ⟨rfl, hB7⟩)
    | (refine wpList_store_own rfl 38 _ _ rfl _ _ rfl rfl 38 _ (Own.new w5 _ _) (rowB (b33 _ _ _ (hh.out) (hh2.out))) (zb _ _ _ hh.out hh2.out) (bcl_one _ _ _) ?_; intro w6 hO6 hN6)
    | ((refine wpList_store_own rfl 38 _ _ rfl _ _ rfl rfl 38 _ (Own.new w2 _ _) (rowB (b33 _ _ _ (hh.out) (hh2.out))) (zb _ _ _ hh.out hh2.out) (bcl_one _ _ _) ?_; intro w3 hO3 hN3); have b3 : Below w.heap.size w w3 := (b2.alloc b2.size _).trans (hN3.below.mono b2.size)))
  go_ret
  have b6 : Below w.heap.size w w6 := (b5.alloc b5.size _).trans (hN6.below.mono b5.size)
  exact ⟨rfl, b6.trans (hB7.mono b6.size)⟩
theorem flb_law (n : Int) (ms : List Int) (bs : List Bool) (hms : ms.length = 16) (hb : Bytes ms) (hbs : bs.length = 16) (w : World) :
    Calls Try.prog 8 #[.agg (bcl n ms bs)] w fun e w' => e = .returned (.bool true) ∧ Below w.heap.size w w' := by
  cases hd : isB n ms bs with
  | true => exact FlipBlobbed_walk n ms bs hms hbs w n 0 _ _ (flM_len n ms) (flB_len n bs _) (flbS_ok n ms bs hms hbs hb hd) (flbI_ok n ms bs hms hbs hb hd)
  | false => exact FlipBlobbed_walk n ms bs hms hbs w 0 1 zeros zbs zlen zbsl (flbS_bad n ms bs hms hbs hb hd) (flbI_bad n ms bs hms hbs hb hd)
end Go.Proofs.Ytbegolbognkefaa
