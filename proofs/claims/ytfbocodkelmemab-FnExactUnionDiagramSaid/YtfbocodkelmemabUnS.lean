/- Contracts of the model's union. -/
import Derived.Test.YtfbocodkelmemabUnI
import Derived.Test.YtfbocodkelmemabMvMath
import Derived.Test.YtfbocodkelmemabSpecC
import Derived.RegionTactic
import Derived.ChangeAlike
namespace Go.Proofs.Ytfbocodkelmemab
open Go.RowKit
set_option linter.unusedVariables false
set_option maxRecDepth 100000 in
theorem movedS_1 (n m i : Int) (w : World) (h1 : 1 ≤ n) (h2 : 1 ≤ m) (h8 : n + m ≤ 8) (h0 : 0 ≤ i) (h3 : i < 2 * n) :
    Calls Try.prog 28 #[.int .i64 n, .int .i64 0, .int .i64 (n + m), .int .i64 i] w fun e w' => e = .returned (.int .i64 (un1 n m i)) ∧ w' = w := by
  unfold un1
  by_cases h : i < n
  · rw [if_pos h]
    go_enter Try.func28, Try.ntmps28
    go_wp2
    go_ret
    exact ⟨by simp, rfl⟩
  · rw [if_neg h]
    go_enter Try.func28, Try.ntmps28
    go_wp2
    go_ret
    exact ⟨congrArg (fun x => Ending.returned (Value.int .i64 x)) (by omega), rfl⟩
set_option maxRecDepth 100000 in
theorem movedS_2 (n m i : Int) (w : World) (h1 : 1 ≤ n) (h2 : 1 ≤ m) (h8 : n + m ≤ 8) (h0 : 0 ≤ i) (h3 : i < 2 * m) :
    Calls Try.prog 28 #[.int .i64 m, .int .i64 n, .int .i64 (n + m), .int .i64 i] w fun e w' => e = .returned (.int .i64 (un2 n m i)) ∧ w' = w := by
  unfold un2
  by_cases h : i < m
  · rw [if_pos h]
    go_enter Try.func28, Try.ntmps28
    go_wp2
    go_ret
    exact ⟨congrArg (fun x => Ending.returned (Value.int .i64 x)) (by omega), rfl⟩
  · rw [if_neg h]
    go_enter Try.func28, Try.ntmps28
    go_wp2
    go_ret
    exact ⟨congrArg (fun x => Ending.returned (Value.int .i64 x)) (by omega), rfl⟩
set_option maxRecDepth 100000 in
set_option maxHeartbeats 1000000 in
theorem UnionDiagramS_bad1 (n m : Int) (ms es : List Int) (hms : ms.length = 16) (hb : Bytes ms) (hd : isD n ms = false) (w : World) :
    Calls Try.prog 9 #[.agg (dcells n ms), .agg (dcells m es)] w fun e w' => e = .returned (.tuple #[.agg zcells, .int .i64 1]) ∧ Below w.heap.size w w' := by
  have hl := Lib.hid hms
  have hc := Lib.hid (fun w => l01Is_dec n ms hms hb w)
  rw [hd] at hc
  clear hms hb hd
  go_enter Try.func9, Try.ntmps9
  go_wp2_with (first
    | (refine wpList_load_row rfl 25 _ rfl _ rfl 25 _ (0, 0) _ (((Own.new _ _ _).alloc _).alloc _) Try.underlying25 rfl (row26 (d17 _ _ (hl.out))) ?_)
    | (go_at_call 26; ((with_reducible refine (hc.out _).mono ?_); rintro e w1 ⟨rfl, hB1⟩; have hR1 : Own w1 (w.heap.size + 1 + 1) zcells 25 := (Own.at _ _ _ (by simp)).below hB1 (by simp); have hD1 : Own w1 w.heap.size (dcells n ms) 25 := (((Own.new _ _ _).alloc _).alloc _).below hB1 (by simp <;> omega); have hE1 : Own w1 (w.heap.size + 1) (dcells m es) 25 := ((Own.at _ _ _ (by simp)).alloc _).below hB1 (by simp <;> omega); have hBw : Below w.heap.size w w1 := ((((Below.refl w.heap.size w).alloc (Nat.le_refl _) _).alloc (by simp) _).alloc (by simp <;> omega) _).trans (hB1.mono (by simp <;> omega)); clear hB1))
    | (refine wpList_build_of rfl 25 #[] rfl zcells ?_ ?_; (exact built26nil))
    | (refine wpList_store_own rfl 25 _ _ rfl _ _ rfl rfl 25 _ (hR1) (row26 (d17 _ _ (zlen))) (rfl) (dcells_one _ _) ?_; intro w4 hO4 hN4))
  refine bodyPost_ret (v := .tuple #[.agg (zcells), .int .i64 1]) (results_row_tmp rfl _ _ _ _ _ (0, 0) _ rfl (hO4) Try.underlying25 rfl (row26 (d17 _ _ (zlen))) _ rfl) rfl (⟨rfl, hBw.trans (hN4.below.mono (by omega))⟩)
set_option maxRecDepth 100000 in
set_option maxHeartbeats 2000000 in
theorem UnionDiagramS_bad2 (n m : Int) (ms es : List Int) (hms : ms.length = 16) (hes : es.length = 16) (hb : Bytes ms) (hb2 : Bytes es) (hd : isD n ms = true) (hd2 : isD m es = false) (w : World) :
    Calls Try.prog 9 #[.agg (dcells n ms), .agg (dcells m es)] w fun e w' => e = .returned (.tuple #[.agg zcells, .int .i64 1]) ∧ Below w.heap.size w w' := by
  have hl := Lib.hid hms
  have hl2 := Lib.hid hes
  have hc := Lib.hid (fun w => l01Is_dec n ms hms hb w)
  have hc2 := Lib.hid (fun w => l01Is_dec m es hes hb2 w)
  rw [hd] at hc
  rw [hd2] at hc2
  have c0 := Lib.hid (dcells_zero n ms)
  have c1 := Lib.hid (dcells_zero m es)
  clear hms hb hd hes hb2 hd2
  go_enter Try.func9, Try.ntmps9
  go_wp2_with (first
    | (refine wpList_load_row rfl 25 _ rfl _ rfl 25 _ (0, 0) _ (((Own.new _ _ _).alloc _).alloc _) Try.underlying25 rfl (row26 (d17 _ _ (hl.out))) ?_)
    | (refine wpList_load_row_if rfl 25 _ rfl _ rfl 25 _ _ hE1 Try.underlying25 rfl (row26 (d17 _ _ hl2.out)) ?_)
    | (go_at_call 26; ((with_reducible refine (hc2.out w1).mono ?_); rintro e w2 ⟨rfl, hB2⟩; have hD2 := hD1.below hB2 hD1.lt; have hE2 := hE1.below hB2 hE1.lt; have hR2 := hR1.below hB2 hR1.lt; have b2 : Below w.heap.size w w2 := hBw.trans (hB2.mono hBw.size); have k0 := (hD2.cell 0).trans c0.out; have k1 := (hE2.cell 0).trans c1.out))
    | (go_at_call 26; ((with_reducible refine (hc.out _).mono ?_); rintro e w1 ⟨rfl, hB1⟩; have hR1 : Own w1 (w.heap.size + 1 + 1) zcells 25 := (Own.at _ _ _ (by simp)).below hB1 (by simp); have hD1 : Own w1 w.heap.size (dcells n ms) 25 := (((Own.new _ _ _).alloc _).alloc _).below hB1 (by simp <;> omega); have hE1 : Own w1 (w.heap.size + 1) (dcells m es) 25 := ((Own.at _ _ _ (by simp)).alloc _).below hB1 (by simp <;> omega); have hBw : Below w.heap.size w w1 := ((((Below.refl w.heap.size w).alloc (Nat.le_refl _) _).alloc (by simp) _).alloc (by simp <;> omega) _).trans (hB1.mono (by simp <;> omega)); clear hB1))
    | (refine wpList_build_of rfl 25 #[] rfl zcells ?_ ?_; (exact built26nil))
    | (refine wpList_store_own rfl 25 _ _ rfl _ _ rfl rfl 25 _ (hR2) (row26 (d17 _ _ (zlen))) (rfl) (dcells_one _ _) ?_; intro w4 hO4 hN4))
  refine bodyPost_ret (v := .tuple #[.agg (zcells), .int .i64 1]) (results_row_tmp rfl _ _ _ _ _ (0, 0) _ rfl (hO4) Try.underlying25 rfl (row26 (d17 _ _ (zlen))) _ rfl) rfl (⟨rfl, b2.trans (hN4.below.mono (by omega))⟩)
set_option maxRecDepth 100000 in
set_option maxHeartbeats 2000000 in
theorem UnionDiagramS_lim (n m : Int) (ms es : List Int) (hms : ms.length = 16) (hes : es.length = 16) (hb : Bytes ms) (hb2 : Bytes es) (hd : isD n ms = true) (hd2 : isD m es = true) (h : 8 < n + m) (w : World) :
    Calls Try.prog 9 #[.agg (dcells n ms), .agg (dcells m es)] w fun e w' => e = .returned (.tuple #[.agg zcells, .int .i64 3]) ∧ Below w.heap.size w w' := by
  have hl := Lib.hid hms
  have hl2 := Lib.hid hes
  have hc := Lib.hid (fun w => l01Is_dec n ms hms hb w)
  have hc2 := Lib.hid (fun w => l01Is_dec m es hes hb2 w)
  rw [hd] at hc
  rw [hd2] at hc2
  have c0 := Lib.hid (dcells_zero n ms)
  have c1 := Lib.hid (dcells_zero m es)
  have hIs := (isD_iff n ms hms hb).1 hd
  have hIs2 := (isD_iff m es hes hb2).1 hd2
  obtain ⟨h1, h8⟩ := hIs.1
  obtain ⟨h1', h8'⟩ := hIs2.1
  clear hms hb hd hes hb2 hd2 hIs hIs2
  go_enter Try.func9, Try.ntmps9
  go_wp2_with (first
    | (refine wpList_load_row rfl 25 _ rfl _ rfl 25 _ (0, 0) _ (((Own.new _ _ _).alloc _).alloc _) Try.underlying25 rfl (row26 (d17 _ _ (hl.out))) ?_)
    | (refine wpList_load_row_if rfl 25 _ rfl _ rfl 25 _ _ hE1 Try.underlying25 rfl (row26 (d17 _ _ hl2.out)) ?_)
    | (go_at_call 26; ((with_reducible refine (hc2.out w1).mono ?_); rintro e w2 ⟨rfl, hB2⟩; have hD2 := hD1.below hB2 hD1.lt; have hE2 := hE1.below hB2 hE1.lt; have hR2 := hR1.below hB2 hR1.lt; have b2 : Below w.heap.size w w2 := hBw.trans (hB2.mono hBw.size); have k0 := (hD2.cell 0).trans c0.out; have k1 := (hE2.cell 0).trans c1.out))
    | (go_at_call 26; ((with_reducible refine (hc.out _).mono ?_); rintro e w1 ⟨rfl, hB1⟩; have hR1 : Own w1 (w.heap.size + 1 + 1) zcells 25 := (Own.at _ _ _ (by simp)).below hB1 (by simp); have hD1 : Own w1 w.heap.size (dcells n ms) 25 := (((Own.new _ _ _).alloc _).alloc _).below hB1 (by simp <;> omega); have hE1 : Own w1 (w.heap.size + 1) (dcells m es) 25 := ((Own.at _ _ _ (by simp)).alloc _).below hB1 (by simp <;> omega); have hBw : Below w.heap.size w w1 := ((((Below.refl w.heap.size w).alloc (Nat.le_refl _) _).alloc (by simp) _).alloc (by simp <;> omega) _).trans (hB1.mono (by simp <;> omega)); clear hB1))
    | (refine wpList_build_of rfl 25 #[] rfl zcells ?_ ?_; (exact built26nil))
    | (refine wpList_store_own rfl 25 _ _ rfl _ _ rfl rfl 25 _ (hR2) (row26 (d17 _ _ (zlen))) (rfl) (dcells_one _ _) ?_; intro w4 hO4 hN4))
  refine bodyPost_ret (v := .tuple #[.agg (zcells), .int .i64 3]) (results_row_tmp rfl _ _ _ _ _ (0, 0) _ rfl (hO4) Try.underlying25 rfl (row26 (d17 _ _ (zlen))) _ rfl) rfl (⟨rfl, b2.trans (hN4.below.mono (by omega))⟩)
set_option maxRecDepth 100000 in
set_option maxHeartbeats 2000000 in
theorem UnionDiagramS_ok (n m : Int) (ms es : List Int) (hms : ms.length = 16) (hes : es.length = 16) (hb : Bytes ms) (hb2 : Bytes es) (hd : isD n ms = true) (hd2 : isD m es = true) (h : n + m ≤ 8) (w : World) :
    Calls Try.prog 9 #[.agg (dcells n ms), .agg (dcells m es)] w fun e w' => e = .returned (.tuple #[.agg (dcells (n + m) (unL n m ms es)), .int .i64 0]) ∧ Below w.heap.size w w' := by
  have hl := Lib.hid hms
  have hl2 := Lib.hid hes
  have hc := Lib.hid (fun w => l01Is_dec n ms hms hb w)
  have hc2 := Lib.hid (fun w => l01Is_dec m es hes hb2 w)
  rw [hd] at hc
  rw [hd2] at hc2
  have c0 := Lib.hid (dcells_zero n ms)
  have c1 := Lib.hid (dcells_zero m es)
  have hIs := (isD_iff n ms hms hb).1 hd
  have hIs2 := (isD_iff m es hes hb2).1 hd2
  obtain ⟨h1, h8⟩ := hIs.1
  obtain ⟨h1', h8'⟩ := hIs2.1
  have hmt1 := Lib.hid (mate_lt hb hIs)
  have hmt2 := Lib.hid (mate_lt hb2 hIs2)
  have hb1 := Lib.hid (built26one (n + m))
  have hml1 := Lib.hid (mvL_len (un1 n m) ms zeros zlen (2 * n).toNat)
  rw [show unL n m ms es = mvL (un2 n m) es (mvL (un1 n m) ms zeros (2 * n).toNat) (2 * m).toNat from rfl]
  have hml2 := Lib.hid (mvL_len (un2 n m) es _ hml1.out (2 * m).toNat)
  obtain ⟨R1, hR1⟩ : ∃ R, mvL (un1 n m) ms zeros (2 * n).toNat = R := ⟨_, rfl⟩
  rw [hR1] at hml1 hml2 ⊢
  obtain ⟨R, hR⟩ : ∃ R, mvL (un2 n m) es R1 (2 * m).toNat = R := ⟨_, rfl⟩
  rw [hR] at hml2 ⊢
  have HR1 := Lib.hid hR1
  have HR := Lib.hid hR
  clear hms hb hd hes hb2 hd2 hIs hIs2 hR1 hR
  go_enter Try.func9, Try.ntmps9
  go_wp2_with (first
    | (refine wpList_load_row rfl 25 _ rfl _ rfl 25 _ (0, 0) _ (((Own.new _ _ _).alloc _).alloc _) Try.underlying25 rfl (row26 (d17 _ _ (hl.out))) ?_)
    | (refine wpList_load_row_if rfl 25 _ rfl _ rfl 25 _ _ hE1 Try.underlying25 rfl (row26 (d17 _ _ hl2.out)) ?_)
    | (go_at_call 26; ((with_reducible refine (hc2.out w1).mono ?_); rintro e w2 ⟨rfl, hB2⟩; have hD2 := hD1.below hB2 hD1.lt; have hE2 := hE1.below hB2 hE1.lt; have hR2 := hR1.below hB2 hR1.lt; have b2 : Below w.heap.size w w2 := hBw.trans (hB2.mono hBw.size); have k0 := (hD2.cell 0).trans c0.out; have k1 := (hE2.cell 0).trans c1.out))
    | (go_at_call 26; ((with_reducible refine (hc.out _).mono ?_); rintro e w1 ⟨rfl, hB1⟩; have hR1 : Own w1 (w.heap.size + 1 + 1) zcells 25 := (Own.at _ _ _ (by simp)).below hB1 (by simp); have hD1 : Own w1 w.heap.size (dcells n ms) 25 := (((Own.new _ _ _).alloc _).alloc _).below hB1 (by simp <;> omega); have hE1 : Own w1 (w.heap.size + 1) (dcells m es) 25 := ((Own.at _ _ _ (by simp)).alloc _).below hB1 (by simp <;> omega); have hBw : Below w.heap.size w w1 := ((((Below.refl w.heap.size w).alloc (Nat.le_refl _) _).alloc (by simp) _).alloc (by simp <;> omega) _).trans (hB1.mono (by simp <;> omega)); clear hB1))
    | (refine wpList_build_of rfl 25 #[(0, .tmp 33)] rfl (dcells (n + m) zeros) ?_ ?_; (exact hb1.out))
    | (refine wpList_store_own rfl 25 _ _ rfl _ _ rfl rfl 25 _ (Own.new w2 _ _) (row26 (d17 _ _ (zlen))) (dz _ _ zlen) (dcells_one _ _) ?_; intro w3 hO3 hN3))
  have hD3 := (hD2.alloc _).only hN3 (Nat.ne_of_lt hD2.lt)
  have hE3 := (hE2.alloc _).only hN3 (Nat.ne_of_lt hE2.lt)
  have hR3 := (hR2.alloc _).only hN3 (Nat.ne_of_lt hR2.lt)
  have hB3 : Below w.heap.size w w3 := (b2.alloc b2.size _).trans (hN3.below.mono b2.size)
  have hg0 := b2.size
  have hg1 := hR2.lt
  obtain ⟨g, hg⟩ : ∃ g, w2.heap.size = g := ⟨_, rfl⟩
  rw [hg] at hO3 hg0 hg1 ⊢
  clear hD1 hE1 hR1 hD2 hE2 hR2 hBw hB2 b2 hN3 hg k0 k1
  go_loopw [8] (fun i wr => ∃ k : Nat, k ≤ 2 * n ∧ i = .int .i64 k ∧ Own wr w.heap.size (dcells n ms) 25 ∧ Own wr (w.heap.size + 1) (dcells m es) 25 ∧ Own wr (w.heap.size + 1 + 1) zcells 25 ∧ Own wr g (dcells (n + m) (mvL (un1 n m) ms zeros k)) 25 ∧ Below w.heap.size w wr) (fun i _ => (2 * n - intOf i).toNat)
  case atStart => exact ⟨0, by omega, rfl, hD3, hE3, hR3, hO3, hB3⟩
  case round =>
    clear hD3 hE3 hR3 hO3 hB3
    obtain ⟨k, hk, rfl, hO, hE, hR, hD, hB⟩ := hrel
    have hsl := Lib.hid (mvL_len (un1 n m) ms zeros zlen k)
    have hs := hB.size
    have hgl := hD.lt
    by_cases hlt : (k : Int) < 2 * n
    · have mm := hmt1.out k (by omega) hlt
      obtain ⟨y, hy⟩ : ∃ y, mate ms k = y := ⟨_, rfl⟩
      have c2 : (dcells n ms)[1 + k]? = some (.int .u8 y) := by rw [dcells_get _ _ _ (by rw [hl.out]; omega), ← hy, mate_nat]
      rw [hy] at mm
      obtain ⟨mm0, mm2⟩ := mm
      have fk := un1_bd n m k h1 h1' h (by omega) hlt
      have fm := un1_bd n m y h1 h1' h mm0 mm2
      have hst := Lib.hid (show mvL (un1 n m) ms zeros (k + 1) = joinL (mvL (un1 n m) ms zeros k) (un1 n m k) (un1 n m y) by rw [mvL, hy])
      have C2 := Lib.hid c2
      clear hy c2
      have k0 := (hO.cell 0).trans c0.out
      have k1 := (hE.cell 0).trans c1.out
      go_wp2_with fail
      clear k0 k1
      have hO' : Own wr.drew w.heap.size (dcells n ms) 25 := hO
      have hE' : Own wr.drew (w.heap.size + 1) (dcells m es) 25 := hE
      have hR' : Own wr.drew (w.heap.size + 1 + 1) zcells 25 := hR
      have hD' : Own wr.drew g (dcells (n + m) (mvL (un1 n m) ms zeros k)) 25 := hD
      have hB' : Below w.heap.size w wr.drew := hB.drew
      have hs' : w.heap.size ≤ wr.drew.heap.size := hs
      refine wp_region_still_tail 15 (by kernel_rfl) (by kernel_rfl) ?_
      change wpStill _ _ wr.drew (fun a' => wpList _ _ _ _ a' wr.drew) _ _
      clear hO hE hR hD hB hs
      generalize wr.drew = wd at *
      have k0 := (hO'.cell 0).trans c0.out
      have k1 := (hE'.cell 0).trans c1.out
      have k2 := hO'.cell (1 + k)
      rw [C2.out] at k2
      have q1 := Lib.hid (movedS_1 n m k wd h1 h1' h (by omega) hlt)
      have q2 := Lib.hid (movedS_1 n m y wd h1 h1' h mm0 mm2)
      have hk16 : (k : Int) < 16 := by omega
      have hwr : IntKind.i64.wrap y = y := IntWalk.i64_in _ (by omega)
      simp only [List.take_succ_cons, List.take_zero, List.drop_succ_cons, List.drop_zero]
      refine wpStill_step (fun K' hK' => ?_)
      rw [if_pos (by rfl)]
      refine still_load_row 25 (.tmp 7) rfl g rfl 25 _ _ hD' Try.underlying25 rfl (row26 (d17 _ _ hsl.out)) ?_
      refine hK' _ ?_
      clear hK' K'
      still_step
      still_step
      still_step
      still_step
      still_call q1.out
      still_step
      still_step
      still_step
      still_step
      still_step
      still_step
      still_step
      still_step
      still_call q2.out
      refine wpStill_nil ?_
      clear k0 k1 k2 hwr q1 q2
      go_wp2_with (first
        | (go_at_call 27; ((with_reducible refine (joinS_any (n + m) _ hsl.out (un1 n m k) (un1 n m y) _ fk.1 fk.2 fm.1 fm.2).mono ?_); rintro e w4 ⟨rfl, hB4⟩))
        | (refine wpList_store_own rfl 25 _ _ rfl _ _ rfl rfl 25 _ (hD'.below hB4 hD'.lt) (row26 (d17 _ _ (joinL_len _ _ _ |>.trans hsl.out))) (dd _ _ _ _ hsl.out (joinL_len _ _ _ |>.trans hsl.out)) (dcells_one _ _) ?_; intro w5 hO5 hN5))
      have hO6 := (hO'.below hB4 hO'.lt).only hN5 (by omega)
      have hE6 := (hE'.below hB4 hE'.lt).only hN5 (by omega)
      have hR6 := (hR'.below hB4 hR'.lt).only hN5 (by omega)
      have hB6 : Below w.heap.size w w5 := (hB'.trans (hB4.mono hs')).trans (hN5.below.mono (by omega))
      rw [← hst.out] at hO5
      clear hO' hE' hR' hD' hB' hB4 hN5
      go_wp2
      go_roundw
      case rel => exact ⟨k + 1, by omega, by go_num, hO6, hE6, hR6, hO5, hB6⟩
      case measure => simp [intOf]; omega
    · have e := Lib.hid (show (2 * n).toNat = k by omega)
      have k0 := (hO.cell 0).trans c0.out
      rw [← e.out, HR1.out] at hD
      go_wp2
      clear k0 e
      have hOa := hO
      have hEa := hE
      have hRa := hR
      have hDa := hD
      have hBa := hB
      clear hO hE hR hD hB hsl hs hgl hlt hk
      go_loopw [9] (fun i wr => ∃ k : Nat, k ≤ 2 * m ∧ i = .int .i64 k ∧ Own wr w.heap.size (dcells n ms) 25 ∧ Own wr (w.heap.size + 1) (dcells m es) 25 ∧ Own wr (w.heap.size + 1 + 1) zcells 25 ∧ Own wr g (dcells (n + m) (mvL (un2 n m) es R1 k)) 25 ∧ Below w.heap.size w wr) (fun i _ => (2 * m - intOf i).toNat)
      case atStart => exact ⟨0, by omega, rfl, hOa, hEa, hRa, hDa, hBa⟩
      case round =>
        clear hOa hEa hRa hDa hBa
        obtain ⟨k, hk, rfl, hO, hE, hR, hD, hB⟩ := hrel
        have hsl := Lib.hid (mvL_len (un2 n m) es R1 hml1.out k)
        have hs := hB.size
        have hgl := hD.lt
        by_cases hlt : (k : Int) < 2 * m
        · have mm := hmt2.out k (by omega) hlt
          obtain ⟨y, hy⟩ : ∃ y, mate es k = y := ⟨_, rfl⟩
          have c2 : (dcells m es)[1 + k]? = some (.int .u8 y) := by rw [dcells_get _ _ _ (by rw [hl2.out]; omega), ← hy, mate_nat]
          rw [hy] at mm
          obtain ⟨mm0, mm2⟩ := mm
          have fk := un2_bd n m k h1 h1' h (by omega) hlt
          have fm := un2_bd n m y h1 h1' h mm0 mm2
          have hst := Lib.hid (show mvL (un2 n m) es R1 (k + 1) = joinL (mvL (un2 n m) es R1 k) (un2 n m k) (un2 n m y) by rw [mvL, hy])
          have C2 := Lib.hid c2
          clear hy c2
          have k0 := (hO.cell 0).trans c0.out
          have k1 := (hE.cell 0).trans c1.out
          go_wp2_with fail
          clear k0 k1
          have hO' : Own wr.drew w.heap.size (dcells n ms) 25 := hO
          have hE' : Own wr.drew (w.heap.size + 1) (dcells m es) 25 := hE
          have hR' : Own wr.drew (w.heap.size + 1 + 1) zcells 25 := hR
          have hD' : Own wr.drew g (dcells (n + m) (mvL (un2 n m) es R1 k)) 25 := hD
          have hB' : Below w.heap.size w wr.drew := hB.drew
          have hs' : w.heap.size ≤ wr.drew.heap.size := hs
          refine wp_region_still_tail 19 (by kernel_rfl) (by kernel_rfl) ?_
          change wpStill _ _ wr.drew (fun a' => wpList _ _ _ _ a' wr.drew) _ _
          clear hO hE hR hD hB hs
          generalize wr.drew = wd at *
          have k0 := (hO'.cell 0).trans c0.out
          have k1 := (hE'.cell 0).trans c1.out
          have k2 := hE'.cell (1 + k)
          rw [C2.out] at k2
          have q1 := Lib.hid (movedS_2 n m k wd h1 h1' h (by omega) hlt)
          have q2 := Lib.hid (movedS_2 n m y wd h1 h1' h mm0 mm2)
          have hk16 : (k : Int) < 16 := by omega
          have hwr : IntKind.i64.wrap y = y := IntWalk.i64_in _ (by omega)
          simp only [List.take_succ_cons, List.take_zero, List.drop_succ_cons, List.drop_zero]
          refine wpStill_step (fun K' hK' => ?_)
          rw [if_pos (by rfl)]
          refine still_load_row 25 (.tmp 7) rfl g rfl 25 _ _ hD' Try.underlying25 rfl (row26 (d17 _ _ hsl.out)) ?_
          refine hK' _ ?_
          clear hK' K'
          still_step
          still_step
          still_step
          still_step
          still_step
          still_step
          still_call q1.out
          still_step
          still_step
          still_step
          still_step
          still_step
          still_step
          still_step
          still_step
          still_step
          still_step
          still_call q2.out
          refine wpStill_nil ?_
          clear k0 k1 k2 hwr q1 q2
          go_wp2_with (first
            | (go_at_call 27; ((with_reducible refine (joinS_any (n + m) _ hsl.out (un2 n m k) (un2 n m y) _ fk.1 fk.2 fm.1 fm.2).mono ?_); rintro e w4 ⟨rfl, hB4⟩))
            | (refine wpList_store_own rfl 25 _ _ rfl _ _ rfl rfl 25 _ (hD'.below hB4 hD'.lt) (row26 (d17 _ _ (joinL_len _ _ _ |>.trans hsl.out))) (dd _ _ _ _ hsl.out (joinL_len _ _ _ |>.trans hsl.out)) (dcells_one _ _) ?_; intro w5 hO5 hN5))
          have hO6 := (hO'.below hB4 hO'.lt).only hN5 (by omega)
          have hE6 := (hE'.below hB4 hE'.lt).only hN5 (by omega)
          have hR6 := (hR'.below hB4 hR'.lt).only hN5 (by omega)
          have hB6 : Below w.heap.size w w5 := (hB'.trans (hB4.mono hs')).trans (hN5.below.mono (by omega))
          rw [← hst.out] at hO5
          clear hO' hE' hR' hD' hB' hB4 hN5
          go_wp2
          go_roundw
          case rel => exact ⟨k + 1, by omega, by go_num, hO6, hE6, hR6, hO5, hB6⟩
          case measure => simp [intOf]; omega
        · have e := Lib.hid (show (2 * m).toNat = k by omega)
          have k1 := (hE.cell 0).trans c1.out
          rw [← e.out, HR.out] at hD
          go_wp2_with (first
            | (refine wpList_load_row rfl 25 _ rfl _ rfl 25 _ (0, 0) _ (hD) Try.underlying25 rfl (row26 (d17 _ _ (hml2.out))) ?_)
            | (refine wpList_store_own rfl 25 _ _ rfl _ _ rfl rfl 25 _ (hR) (row26 (d17 _ _ (hml2.out))) (z_eq (d17 _ _ hml2.out)) (dcells_one _ _) ?_; intro w7 hO7 hN7))
          refine bodyPost_ret (v := .tuple #[.agg (dcells (n + m) R), .int .i64 0]) (results_row_tmp rfl _ _ _ _ _ (0, 0) _ rfl (hO7) Try.underlying25 rfl (row26 (d17 _ _ (hml2.out))) _ rfl) rfl (⟨rfl, hB.trans (hN7.below.mono (by omega))⟩)
end Go.Proofs.Ytfbocodkelmemab
