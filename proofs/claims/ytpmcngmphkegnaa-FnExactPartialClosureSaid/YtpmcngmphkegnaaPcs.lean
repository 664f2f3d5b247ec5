/- The model's l02Closed. (Written by genpcs.py.) -/
import Derived.Test.YtpmcngmphkegnaaPcm
namespace Go.Proofs.Ytpmcngmphkegnaa
open Go.RowKit Go.Lib
set_option linter.unusedVariables false
set_option linter.unusedSimpArgs false
/-- The mates with the last points' ends joined. -/
def msD (n : Int) (ms : List Int) : List Int := if mate ms (n - 1) = 2 * n - 1 then ms else joinL ms (mate ms (n - 1)) (mate ms (2 * n - 1))
theorem msD_len {n : Int} {ms : List Int} (h : ms.length = 16) : (msD n ms).length = 16 := by unfold msD; split <;> simp [joinL_len, h]
theorem msD_get {n : Int} {ms : List Int} (h2 : 2 ≤ n) (h8 : n ≤ 8) (hl : ms.length = 16) (M : Mt n (mate ms)) (x : Nat) (hx : alC n x) : (msD n ms).getD x 0 = djC n (mate ms) x := by
  unfold msD djC
  by_cases c : mate ms (n - 1) = 2 * n - 1
  · rw [if_pos c, if_pos c, mate_nat]
  · obtain ⟨na, nb, nn⟩ := ends_al h2 M c
    have f1 := na.1
    have f1' := na.2.1
    have f2 := nb.1
    have f2' := nb.2.1
    rw [if_neg c, if_neg c]
    unfold joinL
    rw [set_get _ (by rw [List.length_set, hl]) _ (by omega), set_get _ hl _ (by omega), mate_nat]
    by_cases d1 : (x : Int) = mate ms (n - 1)
    · rw [if_pos d1, if_neg (by omega), if_pos (by omega)]
    · rw [if_neg d1]
      by_cases d2 : (x : Int) = mate ms (2 * n - 1)
      · rw [if_pos d2, if_pos (by omega)]
      · rw [if_neg d2, if_neg (by omega), if_neg (by omega)]
/-- What the model has written behind so many points. -/
def stC (n : Int) (ms : List Int) : Nat → List Int
  | 0 => zeros
  | k + 1 => if (k : Int) = n - 1 then stC n ms k else (stC n ms k).set (lfC n k).toNat (lfC n (djC n (mate ms) k))
theorem stC_len (n : Int) (ms : List Int) (k : Nat) : (stC n ms k).length = 16 := by
  induction k with
  | zero => rfl
  | succ k ih => rw [stC]; split <;> simp [ih]
theorem lf_inj' {n x y : Int} (h2 : 2 ≤ n) (hx : alC n x) (hy : alC n y) (h : lfC n x = lfC n y) : x = y := by
  have a := (lf_em h2 hx).2.2
  have b := (lf_em h2 hy).2.2
  rw [← a, ← b, h]
theorem stC_get {n : Int} {ms : List Int} (h2 : 2 ≤ n) (h8 : n ≤ 8) (k : Nat) (hk : (k : Int) ≤ 2 * n - 1) :
    (∀ i, alC n i → (stC n ms k).getD (lfC n i).toNat 0 = if i < k then lfC n (djC n (mate ms) i) else 0) ∧ ∀ j : Nat, 2 * (n - 1) ≤ (j : Int) → (stC n ms k).getD j 0 = 0 := by
  induction k with
  | zero =>
    refine ⟨fun i hi => ?_, fun j hj => zeros_get j⟩
    rw [if_neg (by have := hi.1; omega)]
    exact zeros_get _
  | succ k ih =>
    obtain ⟨ih1, ih2⟩ := ih (by omega)
    have hl := stC_len n ms k
    by_cases c : (k : Int) = n - 1
    · rw [stC, if_pos c]
      refine ⟨fun i hi => ?_, ih2⟩
      rw [ih1 i hi]
      by_cases q : i < k
      · rw [if_pos q, if_pos (by omega)]
      · rw [if_neg q, if_neg (by have := hi.2.2.1; omega)]
    · have ak : alC n k := ⟨by omega, by omega, c, by omega⟩
      have e1 := lf_em h2 ak
      rw [stC, if_neg c]
      refine ⟨fun i hi => ?_, fun j hj => ?_⟩
      · have e3 := lf_em h2 hi
        rw [set_get _ hl _ (by omega)]
        by_cases d2 : i = k
        · rw [d2, if_pos rfl, if_pos (by omega)]
        · rw [if_neg (fun e => d2 (lf_inj' h2 hi ak (by omega))), ih1 i hi]
          by_cases q : i < k
          · rw [if_pos q, if_pos (by omega)]
          · rw [if_neg q, if_neg (by omega)]
      · rw [set_get _ hl _ (by omega), if_neg (by omega), ih2 j hj]
theorem stC_cl {n : Int} (ms : List Int) (h2 : 2 ≤ n) (h8 : n ≤ 8) : stC n ms (2 * n - 1).toNat = clL n ms := by
  obtain ⟨g1, g2⟩ := stC_get (ms := ms) h2 h8 (2 * n - 1).toNat (by omega)
  refine list_ext16 (stC_len _ _ _) (clL_len n ms) (fun j => ?_)
  rw [cl_get h8]
  by_cases hj : (j : Int) < 2 * (n - 1)
  · rw [if_pos hj]
    obtain ⟨ea, el⟩ := em_al h2 (show (0 : Int) ≤ (j : Int) by omega) hj
    have gi := g1 _ ea
    rw [show (lfC n (emC n j)).toNat = j by omega] at gi
    rw [gi, if_pos (by have := ea.2.1; have := ea.2.2.2; omega)]
  · rw [if_neg hj]
    exact g2 j (by omega)
set_option maxRecDepth 100000 in
set_option maxHeartbeats 8000000 in
theorem clS_any (n : Int) (ms : List Int) (h2 : 2 ≤ n) (hd : VD (n, ms)) (w : World) :
    Calls Try.prog 71 #[.agg (dcells n ms)] w fun e w' => e = .returned (.tuple #[.agg (dcells (n - 1) (clL n ms)), .int .i64 (clO n ms)]) ∧ Below w.heap.size w w' := by
  have hIs := (isD_iff n ms hd.2.1 hd.2.2).1 hd.1
  have h8 : n ≤ 8 := hIs.1.2
  have M : Mt n (mate ms) := mt_of hd.2.2 hIs
  have hl := Lib.hid (show ms.length = 16 from hd.2.1)
  have hget := Lib.hid (fun (x : Nat) (hx : alC n x) => msD_get h2 h8 hd.2.1 M x hx)
  have hmdl := Lib.hid (msD_len (n := n) hd.2.1)
  have hdj := Lib.hid (fun (x : Int) (hx : alC n x) => dj_al h2 M hx)
  have hmsD0 : msD n ms = if mate ms (n - 1) = 2 * n - 1 then ms else joinL ms (mate ms (n - 1)) (mate ms (2 * n - 1)) := rfl
  have hF := Lib.hid (stC_cl ms h2 h8)
  have hcl := Lib.hid (clL_len n ms)
  have c0 := dcells_zero n ms
  obtain ⟨u, hu⟩ : ∃ u, n - 1 = u := ⟨_, rfl⟩
  obtain ⟨v, hv⟩ : ∃ v, 2 * n - 1 = v := ⟨_, rfl⟩
  have hclo0 : clO n ms = if mate ms (n - 1) = 2 * n - 1 then 1 else 0 := rfl
  obtain ⟨CL, hCL⟩ : ∃ CL, clL n ms = CL := ⟨_, rfl⟩
  obtain ⟨co, hco⟩ : ∃ co, clO n ms = co := ⟨_, rfl⟩
  rw [hCL] at hF hcl
  rw [hco, hu, hv] at hclo0
  rw [hu, hv] at hmsD0
  rw [hCL, hco, hu]
  have hclo := Lib.hid hclo0
  have hmsD := Lib.hid hmsD0
  have a1 := M.lt u (by omega) (by omega)
  have a2 := M.lt v (by omega) (by omega)
  have c1 : (mcells ms)[u.toNat]? = some (.int .u8 (mate ms u)) := by rw [mcells_get _ _ (by rw [hl.out]; omega)]; rfl
  have c2 : (mcells ms)[v.toNat]? = some (.int .u8 (mate ms v)) := by rw [mcells_get _ _ (by rw [hl.out]; omega)]; rfl
  obtain ⟨m, hm⟩ : ∃ m, mate ms u = m := ⟨_, rfl⟩
  obtain ⟨m', hm'⟩ : ∃ m, mate ms v = m := ⟨_, rfl⟩
  rw [hm, hm'] at hmsD
  rw [hm] at hclo a1 c1
  rw [hm'] at a2 c2
  obtain ⟨m0, m2⟩ := a1
  obtain ⟨m0', m2'⟩ := a2
  have C1 := Lib.hid c1
  have C2 := Lib.hid c2
  have hBu : Try.prog.built 68 [(0, .int .i64 u)] = some (dcells u zeros) := by kernel_rfl
  clear hIs M hd hCL hco hclo0 hmsD0 hm hm' c1 c2
  go_enter Try.func71, Try.ntmps71
  go_wp2_with (first
    | (refine wpList_load_mid rfl 66 (.tmp 15) rfl _ 1 rfl _ _ (Own.mates ((Own.new _ _ _).alloc _)) Try.underlying66 rfl (len16 hl.out) ?_)
    | (refine wpList_store_own rfl 66 _ _ rfl _ _ rfl rfl 66 _ (Own.at _ _ _ (by simp)) (row24 (show ((ms.map (Value.int .u8)).toArray).size = 16 from m16 ms hl.out)) (show (mcells zeros).size = ((ms.map (Value.int .u8)).toArray).size from (m16 zeros zlen).trans (m16 ms hl.out).symm) (show ((ms.map (Value.int .u8)).toArray).all (·.oneCell') = true from one24 ms) ?_; intro w3 hM3 hN3))
  have hM3 : Own w3.drew (w.heap.size + 2) (mcells ms) 66 := hM3
  have hO3 : Own w3.drew w.heap.size (dcells n ms) 68 := (show Own w3 w.heap.size (dcells n ms) 68 from (Own.alloc (Own.alloc (Own.new _ _ _) _) _).only hN3 (by omega))
  have hR3 : Own w3.drew (w.heap.size + 1) zcells 68 := (show Own w3 (w.heap.size + 1) zcells 68 from (Own.alloc (Own.at _ _ _ (by simp)) _).only hN3 (by omega))
  have hB3 : Below w.heap.size w w3.drew := (((((Below.refl w.heap.size w).alloc (Nat.le_refl _) _).alloc (by simp) _).alloc (by simp; omega) _).trans (hN3.below.mono (by omega))).drew
  have hs3 : w3.drew.heap.size = w.heap.size + 3 := by show w3.heap.size = _; rw [hN3.size]; simp
  clear hN3
  refine wp_region_still_tail 10 (by kernel_rfl) (by kernel_rfl) ?_
  obtain ⟨wd, hwd⟩ : ∃ wd, w3.drew = wd := ⟨_, rfl⟩
  rw [hwd] at hM3 hO3 hR3 hB3 hs3
  rw [show ({ w3 with drawn := w3.drawn + 1 } : World) = wd from hwd]
  clear hwd
  simp only [List.take_succ_cons, List.take_zero, List.drop_succ_cons, List.drop_zero]
  have k1 : wd.cell? ⟨w.heap.size + 1 + 1, u.toNat, none⟩ = some (.int .u8 m) := (hM3.cell _).trans C1.out
  have k2 : wd.cell? ⟨w.heap.size + 1 + 1, v.toNat, none⟩ = some (.int .u8 m') := (hM3.cell _).trans C2.out
  have r1 : IntKind.i64.wrap u = u := IntWalk.i64_in _ (by omega)
  have r2 : IntKind.i64.wrap (2 * n) = 2 * n := IntWalk.i64_in _ (by omega)
  have r3 : IntKind.i64.wrap v = v := IntWalk.i64_in _ (by omega)
  have u0 : 0 ≤ u := by omega
  have u16 : u < 16 := by omega
  have v0 : 0 ≤ v := by omega
  have v16 : v < 16 := by omega
  still_step
  still_step
  still_step
  still_step
  still_step
  still_step
  still_step
  still_step
  still_step
  still_step
  refine wpStill_nil ?_
  clear r1 r2 r3 k1 k2 c0
  have wm : IntKind.i64.wrap m = m := IntWalk.i64_in _ (by omega)
  by_cases q : m = v
  · have hmsD := hmsD.out
    rw [if_pos q] at hmsD
    have hclo1 : co = 1 := by rw [hclo.out, if_pos q]
    have z : (m == v) = true := by simp [q]
    replace q := Lib.hid q
    subst hclo1
    clear hclo
    go_upto_region 8 with fail
    obtain ⟨MS, hMS⟩ : ∃ MS, ms = MS := ⟨_, rfl⟩
    have hms' := Lib.hid (show ∀ x : Nat, alC n x → MS.getD x 0 = djC n (mate ms) x from fun (x : Nat) (hx : alC n x) => (congrArg (fun l : List Int => l.getD x 0) (hmsD.trans hMS)).symm.trans (hget.out x hx))
    have hml := Lib.hid (show MS.length = 16 from (congrArg List.length (hmsD.trans hMS)).symm.trans hmdl.out)
    rw [hMS] at hM3
    clear hmsD hget hmdl hMS C1 C2
    have hM5 := hM3.alloc (.cells zcells 68)
    have hO5 := hO3.alloc (.cells zcells 68)
    have hR5 := hR3.alloc (.cells zcells 68)
    have hB5 := hB3.alloc hB3.size (.cells zcells 68)
    have hZ5 := Own.at wd zcells 68 hs3
    replace hs3 := Lib.hid hs3
    have hs3' := hs3.out
    go_wp2_with (first
      | (refine wpList_build_of rfl 68 #[(0, .tmp 39)] rfl (dcells u zeros) ?_ ?_; (exact hBu))
      | (refine wpList_store_own rfl 68 _ _ rfl _ _ rfl rfl 68 _ (hZ5) (row26 (d17 _ _ (zlen))) (dz _ _ zlen) (dcells_one _ _) ?_; intro w5 hD5 hN5))
    replace hM5 := hM5.only hN5 (by omega)
    replace hO5 := hO5.only hN5 (by omega)
    replace hR5 := hR5.only hN5 (by omega)
    replace hB5 := hB5.trans (hN5.most.below hB5.size (by omega))
    clear hM3 hO3 hR3 hB3 hs3 hs3' hZ5 hN5
    go_loopw [10] (fun i wr => ∃ k : Nat, k ≤ v ∧ i = .int .i64 k ∧ Own wr w.heap.size (dcells n ms) 68 ∧ Own wr (w.heap.size + 1) zcells 68 ∧ Own wr (w.heap.size + 2) (mcells (MS)) 66 ∧ Own wr (w.heap.size + 3) (dcells u (stC n ms k)) 68 ∧ Below w.heap.size w wr) (fun i _ => (v - intOf i).toNat)
    case atStart => exact ⟨0, by omega, rfl, hO5, hR5, hM5, hD5, hB5⟩
    case round =>
      clear hO5 hR5 hM5 hD5 hB5
      obtain ⟨k, hk, rfl, hO, hR, hM, hD, hB⟩ := hrel
      by_cases hlt : (k : Int) < v
      · by_cases hku : (k : Int) = u
        · have hst : stC n ms (k + 1) = stC n ms k := by rw [stC, if_pos (by omega)]
          have z2 : ((k : Int) == u) = true := by simp [hku]
          replace hku := Lib.hid hku
          replace hst := Lib.hid hst
          go_wp2
          go_roundw
          case rel => exact ⟨k + 1, by omega, by go_num, hO, hR, hM, by rw [hst.out]; exact hD, hB⟩
          case measure => simp [intOf]; omega
        · have z2 : ((k : Int) == u) = false := by simp [hku]
          have ak : alC n k := ⟨by omega, by omega, by omega, by omega⟩
          have ax := hdj.out k ak
          have hst1 : stC n ms (k + 1) = (stC n ms k).set (lfC n k).toNat (lfC n (djC n (mate ms) k)) := by rw [stC, if_neg (by omega)]
          have c1 : (mcells MS)[k]? = some (.int .u8 (djC n (mate ms) k)) := by rw [mcells_get _ _ (by rw [hml.out]; omega), hms'.out k ak]
          obtain ⟨x, hx⟩ : ∃ x, djC n (mate ms) k = x := ⟨_, rfl⟩
          rw [hx] at ax hst1 c1
          obtain ⟨x0, x2, x3, x4⟩ := ax
          have hsl := Lib.hid (stC_len n ms k)
          obtain ⟨ki, hki0⟩ : ∃ y : Int, (k : Int) = y := ⟨_, rfl⟩
          have hkk : k = ki.toNat := by omega
          rw [hki0] at hst1 hlt hku z2
          have hst0 := Lib.hid hst1
          rw [hkk] at c1
          have hki := Lib.hid hki0
          have hk0 : 0 ≤ ki := by omega
          rw [hki0]
          have C1 := Lib.hid c1
          replace hku := Lib.hid hku
          clear hst1 c1 hkk hki0 hx ak x3 x4
          go_upto_region 13 with fail
          refine wp_region_still_tail 6 (by kernel_rfl) (by kernel_rfl) ?_
          have hO' : Own { wr with drawn := wr.drawn + 1 } w.heap.size (dcells n ms) 68 := hO
          have hR' : Own { wr with drawn := wr.drawn + 1 } (w.heap.size + 1) zcells 68 := hR
          have hM' : Own { wr with drawn := wr.drawn + 1 } (w.heap.size + 2) (mcells MS) 66 := hM
          have hD' : Own { wr with drawn := wr.drawn + 1 } (w.heap.size + 3) (dcells u (stC n ms k)) 68 := hD
          have hB' : Below w.heap.size w { wr with drawn := wr.drawn + 1 } := hB.drew
          clear hO hR hD hB hM
          generalize ({ wr with drawn := wr.drawn + 1 } : World) = wd at *
          have k1 : wd.cell? ⟨w.heap.size + 1 + 1, ki.toNat, none⟩ = some (.int .u8 x) := (hM'.cell _).trans C1.out
          have hk16 : ki < 16 := by omega
          have wx : IntKind.i64.wrap x = x := IntWalk.i64_in _ (by omega)
          simp only [List.take_succ_cons, List.take_zero, List.drop_succ_cons, List.drop_zero]
          still_step
          still_step
          still_step
          still_step
          still_step
          still_step
          refine wpStill_nil ?_
          rcases (show (ki < n ∧ x < n) ∨ (ki < n ∧ ¬ x < n) ∨ (¬ ki < n ∧ x < n) ∨ (¬ ki < n ∧ ¬ x < n) by omega) with ⟨q1, q2⟩ | ⟨q1, q2⟩ | ⟨q1, q2⟩ | ⟨q1, q2⟩
          · have g1 : ¬ n ≤ ki := by omega
            have g2 : ¬ n ≤ x := by omega
            have hst := Lib.hid (show stC n ms (k + 1) = (stC n ms k).set ki.toNat (x) by rw [hst0.out]; unfold lfC; rw [if_pos (by omega), if_pos (by omega)])
            have k2 := hD'.cell (1 + ki.toNat)
            rw [dcells_get _ _ _ (by rw [hsl.out]; omega)] at k2
            have f2 := hD'.free (1 + ki.toNat)
            have hD2 := hD'.set (1 + ki.toNat) (.int .u8 (x))
            rw [dcells_set, ← hst.out] at hD2
            have hO2 := hO'.other (a := ⟨w.heap.size + 3, 1 + ki.toNat, none⟩) (by simp) (.int .u8 (x))
            have hR2 := hR'.other (a := ⟨w.heap.size + 3, 1 + ki.toNat, none⟩) (by simp) (.int .u8 (x))
            have hM2 := hM'.other (a := ⟨w.heap.size + 3, 1 + ki.toNat, none⟩) (by simp) (.int .u8 (x))
            have hB2 := hB'.setCell (p := ⟨w.heap.size + 3, 1 + ki.toNat, none⟩) (by simp) (.int .u8 (x))
            have K1 := Lib.hid hD2
            have K2 := Lib.hid hO2
            have K3 := Lib.hid hR2
            have K4 := Lib.hid hB2
            have K5 := Lib.hid hM2
            clear hD2 hO2 hR2 hB2 hM2 hD' hO' hR' hB' hM' hst0
            have wu : IntKind.u8.wrap (x) = x := u8_in _ (by omega) (by omega)
            have wi : wrap64 (ki) = ki := IntWalk.wrap64_in _ (by omega)
            have wj : wrap64 (ki + 1) = ki + 1 := IntWalk.wrap64_in _ (by omega)
            have wm : wrap64 (x) = x := IntWalk.wrap64_in _ (by omega)
            have ha0 : 0 ≤ ki := by omega
            have ha1 : ki < 16 := by omega
            go_wp2
            go_roundw
            case rel => exact ⟨k + 1, by have := hki.out; omega, by rw [← hki.out]; go_num, K2.out, K3.out, K5.out, K1.out, K4.out⟩
            case measure => simp [intOf]; omega
          · have g1 : ¬ n ≤ ki := by omega
            have g2 : n ≤ x := by omega
            have hst := Lib.hid (show stC n ms (k + 1) = (stC n ms k).set ki.toNat (x - 1) by rw [hst0.out]; unfold lfC; rw [if_pos (by omega), if_neg (by omega)])
            have k2 := hD'.cell (1 + ki.toNat)
            rw [dcells_get _ _ _ (by rw [hsl.out]; omega)] at k2
            have f2 := hD'.free (1 + ki.toNat)
            have hD2 := hD'.set (1 + ki.toNat) (.int .u8 (x - 1))
            rw [dcells_set, ← hst.out] at hD2
            have hO2 := hO'.other (a := ⟨w.heap.size + 3, 1 + ki.toNat, none⟩) (by simp) (.int .u8 (x - 1))
            have hR2 := hR'.other (a := ⟨w.heap.size + 3, 1 + ki.toNat, none⟩) (by simp) (.int .u8 (x - 1))
            have hM2 := hM'.other (a := ⟨w.heap.size + 3, 1 + ki.toNat, none⟩) (by simp) (.int .u8 (x - 1))
            have hB2 := hB'.setCell (p := ⟨w.heap.size + 3, 1 + ki.toNat, none⟩) (by simp) (.int .u8 (x - 1))
            have K1 := Lib.hid hD2
            have K2 := Lib.hid hO2
            have K3 := Lib.hid hR2
            have K4 := Lib.hid hB2
            have K5 := Lib.hid hM2
            clear hD2 hO2 hR2 hB2 hM2 hD' hO' hR' hB' hM' hst0
            have wu : IntKind.u8.wrap (x - 1) = x - 1 := u8_in _ (by omega) (by omega)
            have wi : wrap64 (ki) = ki := IntWalk.wrap64_in _ (by omega)
            have wj : wrap64 (ki + 1) = ki + 1 := IntWalk.wrap64_in _ (by omega)
            have wm : wrap64 (x - 1) = x - 1 := IntWalk.wrap64_in _ (by omega)
            have ha0 : 0 ≤ ki := by omega
            have ha1 : ki < 16 := by omega
            go_wp2
            go_roundw
            case rel => exact ⟨k + 1, by have := hki.out; omega, by rw [← hki.out]; go_num, K2.out, K3.out, K5.out, K1.out, K4.out⟩
            case measure => simp [intOf]; omega
          · have g1 : n ≤ ki := by omega
            have g2 : ¬ n ≤ x := by omega
            have hst := Lib.hid (show stC n ms (k + 1) = (stC n ms k).set (ki.toNat - 1) (x) by rw [hst0.out]; unfold lfC; rw [if_neg (by omega), if_pos (by omega), show (ki - 1).toNat = ki.toNat - 1 by omega])
            have k2 := hD'.cell (1 + (ki.toNat - 1))
            rw [dcells_get _ _ _ (by rw [hsl.out]; omega)] at k2
            have f2 := hD'.free (1 + (ki.toNat - 1))
            have hD2 := hD'.set (1 + (ki.toNat - 1)) (.int .u8 (x))
            rw [dcells_set, ← hst.out] at hD2
            have hO2 := hO'.other (a := ⟨w.heap.size + 3, 1 + (ki.toNat - 1), none⟩) (by simp) (.int .u8 (x))
            have hR2 := hR'.other (a := ⟨w.heap.size + 3, 1 + (ki.toNat - 1), none⟩) (by simp) (.int .u8 (x))
            have hM2 := hM'.other (a := ⟨w.heap.size + 3, 1 + (ki.toNat - 1), none⟩) (by simp) (.int .u8 (x))
            have hB2 := hB'.setCell (p := ⟨w.heap.size + 3, 1 + (ki.toNat - 1), none⟩) (by simp) (.int .u8 (x))
            have K1 := Lib.hid hD2
            have K2 := Lib.hid hO2
            have K3 := Lib.hid hR2
            have K4 := Lib.hid hB2
            have K5 := Lib.hid hM2
            clear hD2 hO2 hR2 hB2 hM2 hD' hO' hR' hB' hM' hst0
            have wu : IntKind.u8.wrap (x) = x := u8_in _ (by omega) (by omega)
            have wi : wrap64 (ki - 1) = ki - 1 := IntWalk.wrap64_in _ (by omega)
            have wj : wrap64 (ki + 1) = ki + 1 := IntWalk.wrap64_in _ (by omega)
            have wm : wrap64 (x) = x := IntWalk.wrap64_in _ (by omega)
            have ha0 : 0 ≤ ki - 1 := by omega
            have ha1 : ki - 1 < 16 := by omega
            go_wp2
            go_roundw
            case rel => exact ⟨k + 1, by have := hki.out; omega, by rw [← hki.out]; go_num, K2.out, K3.out, K5.out, K1.out, K4.out⟩
            case measure => simp [intOf]; omega
          · have g1 : n ≤ ki := by omega
            have g2 : n ≤ x := by omega
            have hst := Lib.hid (show stC n ms (k + 1) = (stC n ms k).set (ki.toNat - 1) (x - 1) by rw [hst0.out]; unfold lfC; rw [if_neg (by omega), if_neg (by omega), show (ki - 1).toNat = ki.toNat - 1 by omega])
            have k2 := hD'.cell (1 + (ki.toNat - 1))
            rw [dcells_get _ _ _ (by rw [hsl.out]; omega)] at k2
            have f2 := hD'.free (1 + (ki.toNat - 1))
            have hD2 := hD'.set (1 + (ki.toNat - 1)) (.int .u8 (x - 1))
            rw [dcells_set, ← hst.out] at hD2
            have hO2 := hO'.other (a := ⟨w.heap.size + 3, 1 + (ki.toNat - 1), none⟩) (by simp) (.int .u8 (x - 1))
            have hR2 := hR'.other (a := ⟨w.heap.size + 3, 1 + (ki.toNat - 1), none⟩) (by simp) (.int .u8 (x - 1))
            have hM2 := hM'.other (a := ⟨w.heap.size + 3, 1 + (ki.toNat - 1), none⟩) (by simp) (.int .u8 (x - 1))
            have hB2 := hB'.setCell (p := ⟨w.heap.size + 3, 1 + (ki.toNat - 1), none⟩) (by simp) (.int .u8 (x - 1))
            have K1 := Lib.hid hD2
            have K2 := Lib.hid hO2
            have K3 := Lib.hid hR2
            have K4 := Lib.hid hB2
            have K5 := Lib.hid hM2
            clear hD2 hO2 hR2 hB2 hM2 hD' hO' hR' hB' hM' hst0
            have wu : IntKind.u8.wrap (x - 1) = x - 1 := u8_in _ (by omega) (by omega)
            have wi : wrap64 (ki - 1) = ki - 1 := IntWalk.wrap64_in _ (by omega)
            have wj : wrap64 (ki + 1) = ki + 1 := IntWalk.wrap64_in _ (by omega)
            have wm : wrap64 (x - 1) = x - 1 := IntWalk.wrap64_in _ (by omega)
            have ha0 : 0 ≤ ki - 1 := by omega
            have ha1 : ki - 1 < 16 := by omega
            go_wp2
            go_roundw
            case rel => exact ⟨k + 1, by have := hki.out; omega, by rw [← hki.out]; go_num, K2.out, K3.out, K5.out, K1.out, K4.out⟩
            case measure => simp [intOf]; omega

      · have hkv : (2 * n - 1).toNat = k := by omega
        have hJ := hF.out
        rw [hkv] at hJ
        rw [hJ] at hD
        have hsz := Lib.hid hB.size
        clear hkv hJ hF hO hM
        replace hR := Lib.hid hR
        replace hB := Lib.hid hB
        go_wp2_with (first
          | (refine wpList_load_row rfl 68 _ rfl _ rfl 68 _ (0, 0) _ (hD) Try.underlying68 rfl (row26 (d17 _ _ (hcl.out))) ?_)
          | (refine wpList_store_own rfl 68 _ _ rfl _ _ rfl rfl 68 _ (hR.out) (row26 (d17 _ _ (hcl.out))) (z_eq (d17 _ _ hcl.out)) (dcells_one _ _) ?_; intro w6 hO3 hN3))
        refine bodyPost_ret (v := .tuple #[.agg (dcells u CL), .int .i64 1]) (results_row_tmp rfl _ _ _ _ _ (0, 0) _ rfl (hO3) Try.underlying68 rfl (row26 (d17 _ _ (hcl.out))) _ rfl) rfl (⟨rfl, ?_⟩)
        exact hB.out.trans (hN3.below.mono (by omega))

  · have hmsD := hmsD.out
    rw [if_neg q] at hmsD
    have hclo1 : co = 0 := by rw [hclo.out, if_neg q]
    have z : (m == v) = false := by simp [q]
    replace q := Lib.hid q
    subst hclo1
    clear hclo
    have b1 : m < 16 := by omega
    have b2 : m' < 16 := by omega
    have l1 : (ms.set m.toNat m').length = 16 := by rw [List.length_set, hl.out]
    have c1 : wd.cell? ⟨w.heap.size + 1 + 1, m.toNat, none⟩ = some (.int .u8 (ms.getD m.toNat 0)) := by rw [show w.heap.size + 1 + 1 = w.heap.size + 2 from rfl, hM3.cell, mcells_get _ _ (by rw [hl.out]; omega)]
    have c2 : (wd.setCell ⟨w.heap.size + 1 + 1, m.toNat, none⟩ (.int .u8 m')).cell? ⟨w.heap.size + 1 + 1, m'.toNat, none⟩ = some (.int .u8 ((ms.set m.toNat m').getD m'.toNat 0)) := by rw [show w.heap.size + 1 + 1 = w.heap.size + 2 from rfl, (hM3.set _ _).cell, mcells_set, mcells_get _ _ (by rw [l1]; omega)]
    have f1 : wd.frozen? ⟨w.heap.size + 1 + 1, m.toNat, none⟩ = false := hM3.free _
    have f2 : wd.frozen? ⟨w.heap.size + 1 + 1, m'.toNat, none⟩ = false := hM3.free _
    have hM4 := (hM3.set m.toNat (.int .u8 m')).set m'.toNat (.int .u8 m)
    rw [mcells_set, mcells_set] at hM4
    have hM4 : Own ((wd.setCell ⟨w.heap.size + 1 + 1, m.toNat, none⟩ (.int .u8 m')).setCell ⟨w.heap.size + 1 + 1, m'.toNat, none⟩ (.int .u8 m)) (w.heap.size + 2) (mcells (joinL ms m m')) 66 := hM4
    have hO4 : Own ((wd.setCell ⟨w.heap.size + 1 + 1, m.toNat, none⟩ (.int .u8 m')).setCell ⟨w.heap.size + 1 + 1, m'.toNat, none⟩ (.int .u8 m)) w.heap.size (dcells n ms) 68 := (hO3.other (by simp <;> omega) _).other (by simp <;> omega) _
    have hR4 : Own ((wd.setCell ⟨w.heap.size + 1 + 1, m.toNat, none⟩ (.int .u8 m')).setCell ⟨w.heap.size + 1 + 1, m'.toNat, none⟩ (.int .u8 m)) (w.heap.size + 1) zcells 68 := (hR3.other (by simp <;> omega) _).other (by simp <;> omega) _
    have hB4 : Below w.heap.size w ((wd.setCell ⟨w.heap.size + 1 + 1, m.toNat, none⟩ (.int .u8 m')).setCell ⟨w.heap.size + 1 + 1, m'.toNat, none⟩ (.int .u8 m)) := (hB3.setCell (by simp; omega) _).setCell (by simp; omega) _
    have hs4 : ((wd.setCell ⟨w.heap.size + 1 + 1, m.toNat, none⟩ (.int .u8 m')).setCell ⟨w.heap.size + 1 + 1, m'.toNat, none⟩ (.int .u8 m)).heap.size = w.heap.size + 3 := by simpa using hs3
    obtain ⟨wj, hwj⟩ : ∃ wj, (wd.setCell ⟨w.heap.size + 1 + 1, m.toNat, none⟩ (.int .u8 m')).setCell ⟨w.heap.size + 1 + 1, m'.toNat, none⟩ (.int .u8 m) = wj := ⟨_, rfl⟩
    rw [hwj] at hM4 hO4 hR4 hB4 hs4
    replace hs3 := Lib.hid hs3
    go_upto_region 8 with fail
    clear hM3 hO3 hR3 hB3 hs3 c1 c2 f1 f2 hwj l1
    have hM3 := hM4
    have hO3 := hO4
    have hR3 := hR4
    have hB3 := hB4
    have hs3 := hs4
    clear hM4 hO4 hR4 hB4 hs4
    obtain ⟨MS, hMS⟩ : ∃ MS, joinL ms m m' = MS := ⟨_, rfl⟩
    have hms' := Lib.hid (show ∀ x : Nat, alC n x → MS.getD x 0 = djC n (mate ms) x from fun (x : Nat) (hx : alC n x) => (congrArg (fun l : List Int => l.getD x 0) (hmsD.trans hMS)).symm.trans (hget.out x hx))
    have hml := Lib.hid (show MS.length = 16 from (congrArg List.length (hmsD.trans hMS)).symm.trans hmdl.out)
    rw [hMS] at hM3
    clear hmsD hget hmdl hMS C1 C2
    have hM5 := hM3.alloc (.cells zcells 68)
    have hO5 := hO3.alloc (.cells zcells 68)
    have hR5 := hR3.alloc (.cells zcells 68)
    have hB5 := hB3.alloc hB3.size (.cells zcells 68)
    have hZ5 := Own.at wj zcells 68 hs3
    replace hs3 := Lib.hid hs3
    have hs3' := hs3.out
    go_wp2_with (first
      | (refine wpList_build_of rfl 68 #[(0, .tmp 39)] rfl (dcells u zeros) ?_ ?_; (exact hBu))
      | (refine wpList_store_own rfl 68 _ _ rfl _ _ rfl rfl 68 _ (hZ5) (row26 (d17 _ _ (zlen))) (dz _ _ zlen) (dcells_one _ _) ?_; intro w5 hD5 hN5))
    replace hM5 := hM5.only hN5 (by omega)
    replace hO5 := hO5.only hN5 (by omega)
    replace hR5 := hR5.only hN5 (by omega)
    replace hB5 := hB5.trans (hN5.most.below hB5.size (by omega))
    clear hM3 hO3 hR3 hB3 hs3 hs3' hZ5 hN5
    go_loopw [10] (fun i wr => ∃ k : Nat, k ≤ v ∧ i = .int .i64 k ∧ Own wr w.heap.size (dcells n ms) 68 ∧ Own wr (w.heap.size + 1) zcells 68 ∧ Own wr (w.heap.size + 2) (mcells (MS)) 66 ∧ Own wr (w.heap.size + 3) (dcells u (stC n ms k)) 68 ∧ Below w.heap.size w wr) (fun i _ => (v - intOf i).toNat)
    case atStart => exact ⟨0, by omega, rfl, hO5, hR5, hM5, hD5, hB5⟩
    case round =>
      clear hO5 hR5 hM5 hD5 hB5
      obtain ⟨k, hk, rfl, hO, hR, hM, hD, hB⟩ := hrel
      by_cases hlt : (k : Int) < v
      · by_cases hku : (k : Int) = u
        · have hst : stC n ms (k + 1) = stC n ms k := by rw [stC, if_pos (by omega)]
          have z2 : ((k : Int) == u) = true := by simp [hku]
          replace hku := Lib.hid hku
          replace hst := Lib.hid hst
          go_wp2
          go_roundw
          case rel => exact ⟨k + 1, by omega, by go_num, hO, hR, hM, by rw [hst.out]; exact hD, hB⟩
          case measure => simp [intOf]; omega
        · have z2 : ((k : Int) == u) = false := by simp [hku]
          have ak : alC n k := ⟨by omega, by omega, by omega, by omega⟩
          have ax := hdj.out k ak
          have hst1 : stC n ms (k + 1) = (stC n ms k).set (lfC n k).toNat (lfC n (djC n (mate ms) k)) := by rw [stC, if_neg (by omega)]
          have c1 : (mcells MS)[k]? = some (.int .u8 (djC n (mate ms) k)) := by rw [mcells_get _ _ (by rw [hml.out]; omega), hms'.out k ak]
          obtain ⟨x, hx⟩ : ∃ x, djC n (mate ms) k = x := ⟨_, rfl⟩
          rw [hx] at ax hst1 c1
          obtain ⟨x0, x2, x3, x4⟩ := ax
          have hsl := Lib.hid (stC_len n ms k)
          obtain ⟨ki, hki0⟩ : ∃ y : Int, (k : Int) = y := ⟨_, rfl⟩
          have hkk : k = ki.toNat := by omega
          rw [hki0] at hst1 hlt hku z2
          have hst0 := Lib.hid hst1
          rw [hkk] at c1
          have hki := Lib.hid hki0
          have hk0 : 0 ≤ ki := by omega
          rw [hki0]
          have C1 := Lib.hid c1
          replace hku := Lib.hid hku
          clear hst1 c1 hkk hki0 hx ak x3 x4
          go_upto_region 13 with fail
          refine wp_region_still_tail 6 (by kernel_rfl) (by kernel_rfl) ?_
          have hO' : Own { wr with drawn := wr.drawn + 1 } w.heap.size (dcells n ms) 68 := hO
          have hR' : Own { wr with drawn := wr.drawn + 1 } (w.heap.size + 1) zcells 68 := hR
          have hM' : Own { wr with drawn := wr.drawn + 1 } (w.heap.size + 2) (mcells MS) 66 := hM
          have hD' : Own { wr with drawn := wr.drawn + 1 } (w.heap.size + 3) (dcells u (stC n ms k)) 68 := hD
          have hB' : Below w.heap.size w { wr with drawn := wr.drawn + 1 } := hB.drew
          clear hO hR hD hB hM
          generalize ({ wr with drawn := wr.drawn + 1 } : World) = wd at *
          have k1 : wd.cell? ⟨w.heap.size + 1 + 1, ki.toNat, none⟩ = some (.int .u8 x) := (hM'.cell _).trans C1.out
          have hk16 : ki < 16 := by omega
          have wx : IntKind.i64.wrap x = x := IntWalk.i64_in _ (by omega)
          simp only [List.take_succ_cons, List.take_zero, List.drop_succ_cons, List.drop_zero]
          still_step
          still_step
          still_step
          still_step
          still_step
          still_step
          refine wpStill_nil ?_
          rcases (show (ki < n ∧ x < n) ∨ (ki < n ∧ ¬ x < n) ∨ (¬ ki < n ∧ x < n) ∨ (¬ ki < n ∧ ¬ x < n) by omega) with ⟨q1, q2⟩ | ⟨q1, q2⟩ | ⟨q1, q2⟩ | ⟨q1, q2⟩
          · have g1 : ¬ n ≤ ki := by omega
            have g2 : ¬ n ≤ x := by omega
            have hst := Lib.hid (show stC n ms (k + 1) = (stC n ms k).set ki.toNat (x) by rw [hst0.out]; unfold lfC; rw [if_pos (by omega), if_pos (by omega)])
            have k2 := hD'.cell (1 + ki.toNat)
            rw [dcells_get _ _ _ (by rw [hsl.out]; omega)] at k2
            have f2 := hD'.free (1 + ki.toNat)
            have hD2 := hD'.set (1 + ki.toNat) (.int .u8 (x))
            rw [dcells_set, ← hst.out] at hD2
            have hO2 := hO'.other (a := ⟨w.heap.size + 3, 1 + ki.toNat, none⟩) (by simp) (.int .u8 (x))
            have hR2 := hR'.other (a := ⟨w.heap.size + 3, 1 + ki.toNat, none⟩) (by simp) (.int .u8 (x))
            have hM2 := hM'.other (a := ⟨w.heap.size + 3, 1 + ki.toNat, none⟩) (by simp) (.int .u8 (x))
            have hB2 := hB'.setCell (p := ⟨w.heap.size + 3, 1 + ki.toNat, none⟩) (by simp) (.int .u8 (x))
            have K1 := Lib.hid hD2
            have K2 := Lib.hid hO2
            have K3 := Lib.hid hR2
            have K4 := Lib.hid hB2
            have K5 := Lib.hid hM2
            clear hD2 hO2 hR2 hB2 hM2 hD' hO' hR' hB' hM' hst0
            have wu : IntKind.u8.wrap (x) = x := u8_in _ (by omega) (by omega)
            have wi : wrap64 (ki) = ki := IntWalk.wrap64_in _ (by omega)
            have wj : wrap64 (ki + 1) = ki + 1 := IntWalk.wrap64_in _ (by omega)
            have wm : wrap64 (x) = x := IntWalk.wrap64_in _ (by omega)
            have ha0 : 0 ≤ ki := by omega
            have ha1 : ki < 16 := by omega
            go_wp2
            go_roundw
            case rel => exact ⟨k + 1, by have := hki.out; omega, by rw [← hki.out]; go_num, K2.out, K3.out, K5.out, K1.out, K4.out⟩
            case measure => simp [intOf]; omega
          · have g1 : ¬ n ≤ ki := by omega
            have g2 : n ≤ x := by omega
            have hst := Lib.hid (show stC n ms (k + 1) = (stC n ms k).set ki.toNat (x - 1) by rw [hst0.out]; unfold lfC; rw [if_pos (by omega), if_neg (by omega)])
            have k2 := hD'.cell (1 + ki.toNat)
            rw [dcells_get _ _ _ (by rw [hsl.out]; omega)] at k2
            have f2 := hD'.free (1 + ki.toNat)
            have hD2 := hD'.set (1 + ki.toNat) (.int .u8 (x - 1))
            rw [dcells_set, ← hst.out] at hD2
            have hO2 := hO'.other (a := ⟨w.heap.size + 3, 1 + ki.toNat, none⟩) (by simp) (.int .u8 (x - 1))
            have hR2 := hR'.other (a := ⟨w.heap.size + 3, 1 + ki.toNat, none⟩) (by simp) (.int .u8 (x - 1))
            have hM2 := hM'.other (a := ⟨w.heap.size + 3, 1 + ki.toNat, none⟩) (by simp) (.int .u8 (x - 1))
            have hB2 := hB'.setCell (p := ⟨w.heap.size + 3, 1 + ki.toNat, none⟩) (by simp) (.int .u8 (x - 1))
            have K1 := Lib.hid hD2
            have K2 := Lib.hid hO2
            have K3 := Lib.hid hR2
            have K4 := Lib.hid hB2
            have K5 := Lib.hid hM2
            clear hD2 hO2 hR2 hB2 hM2 hD' hO' hR' hB' hM' hst0
            have wu : IntKind.u8.wrap (x - 1) = x - 1 := u8_in _ (by omega) (by omega)
            have wi : wrap64 (ki) = ki := IntWalk.wrap64_in _ (by omega)
            have wj : wrap64 (ki + 1) = ki + 1 := IntWalk.wrap64_in _ (by omega)
            have wm : wrap64 (x - 1) = x - 1 := IntWalk.wrap64_in _ (by omega)
            have ha0 : 0 ≤ ki := by omega
            have ha1 : ki < 16 := by omega
            go_wp2
            go_roundw
            case rel => exact ⟨k + 1, by have := hki.out; omega, by rw [← hki.out]; go_num, K2.out, K3.out, K5.out, K1.out, K4.out⟩
            case measure => simp [intOf]; omega
          · have g1 : n ≤ ki := by omega
            have g2 : ¬ n ≤ x := by omega
            have hst := Lib.hid (show stC n ms (k + 1) = (stC n ms k).set (ki.toNat - 1) (x) by rw [hst0.out]; unfold lfC; rw [if_neg (by omega), if_pos (by omega), show (ki - 1).toNat = ki.toNat - 1 by omega])
            have k2 := hD'.cell (1 + (ki.toNat - 1))
            rw [dcells_get _ _ _ (by rw [hsl.out]; omega)] at k2
            have f2 := hD'.free (1 + (ki.toNat - 1))
            have hD2 := hD'.set (1 + (ki.toNat - 1)) (.int .u8 (x))
            rw [dcells_set, ← hst.out] at hD2
            have hO2 := hO'.other (a := ⟨w.heap.size + 3, 1 + (ki.toNat - 1), none⟩) (by simp) (.int .u8 (x))
            have hR2 := hR'.other (a := ⟨w.heap.size + 3, 1 + (ki.toNat - 1), none⟩) (by simp) (.int .u8 (x))
            have hM2 := hM'.other (a := ⟨w.heap.size + 3, 1 + (ki.toNat - 1), none⟩) (by simp) (.int .u8 (x))
            have hB2 := hB'.setCell (p := ⟨w.heap.size + 3, 1 + (ki.toNat - 1), none⟩) (by simp) (.int .u8 (x))
            have K1 := Lib.hid hD2
            have K2 := Lib.hid hO2
            have K3 := Lib.hid hR2
            have K4 := Lib.hid hB2
            have K5 := Lib.hid hM2
            clear hD2 hO2 hR2 hB2 hM2 hD' hO' hR' hB' hM' hst0
            have wu : IntKind.u8.wrap (x) = x := u8_in _ (by omega) (by omega)
            have wi : wrap64 (ki - 1) = ki - 1 := IntWalk.wrap64_in _ (by omega)
            have wj : wrap64 (ki + 1) = ki + 1 := IntWalk.wrap64_in _ (by omega)
            have wm : wrap64 (x) = x := IntWalk.wrap64_in _ (by omega)
            have ha0 : 0 ≤ ki - 1 := by omega
            have ha1 : ki - 1 < 16 := by omega
            go_wp2
            go_roundw
            case rel => exact ⟨k + 1, by have := hki.out; omega, by rw [← hki.out]; go_num, K2.out, K3.out, K5.out, K1.out, K4.out⟩
            case measure => simp [intOf]; omega
          · have g1 : n ≤ ki := by omega
            have g2 : n ≤ x := by omega
            have hst := Lib.hid (show stC n ms (k + 1) = (stC n ms k).set (ki.toNat - 1) (x - 1) by rw [hst0.out]; unfold lfC; rw [if_neg (by omega), if_neg (by omega), show (ki - 1).toNat = ki.toNat - 1 by omega])
            have k2 := hD'.cell (1 + (ki.toNat - 1))
            rw [dcells_get _ _ _ (by rw [hsl.out]; omega)] at k2
            have f2 := hD'.free (1 + (ki.toNat - 1))
            have hD2 := hD'.set (1 + (ki.toNat - 1)) (.int .u8 (x - 1))
            rw [dcells_set, ← hst.out] at hD2
            have hO2 := hO'.other (a := ⟨w.heap.size + 3, 1 + (ki.toNat - 1), none⟩) (by simp) (.int .u8 (x - 1))
            have hR2 := hR'.other (a := ⟨w.heap.size + 3, 1 + (ki.toNat - 1), none⟩) (by simp) (.int .u8 (x - 1))
            have hM2 := hM'.other (a := ⟨w.heap.size + 3, 1 + (ki.toNat - 1), none⟩) (by simp) (.int .u8 (x - 1))
            have hB2 := hB'.setCell (p := ⟨w.heap.size + 3, 1 + (ki.toNat - 1), none⟩) (by simp) (.int .u8 (x - 1))
            have K1 := Lib.hid hD2
            have K2 := Lib.hid hO2
            have K3 := Lib.hid hR2
            have K4 := Lib.hid hB2
            have K5 := Lib.hid hM2
            clear hD2 hO2 hR2 hB2 hM2 hD' hO' hR' hB' hM' hst0
            have wu : IntKind.u8.wrap (x - 1) = x - 1 := u8_in _ (by omega) (by omega)
            have wi : wrap64 (ki - 1) = ki - 1 := IntWalk.wrap64_in _ (by omega)
            have wj : wrap64 (ki + 1) = ki + 1 := IntWalk.wrap64_in _ (by omega)
            have wm : wrap64 (x - 1) = x - 1 := IntWalk.wrap64_in _ (by omega)
            have ha0 : 0 ≤ ki - 1 := by omega
            have ha1 : ki - 1 < 16 := by omega
            go_wp2
            go_roundw
            case rel => exact ⟨k + 1, by have := hki.out; omega, by rw [← hki.out]; go_num, K2.out, K3.out, K5.out, K1.out, K4.out⟩
            case measure => simp [intOf]; omega

      · have hkv : (2 * n - 1).toNat = k := by omega
        have hJ := hF.out
        rw [hkv] at hJ
        rw [hJ] at hD
        have hsz := Lib.hid hB.size
        clear hkv hJ hF hO hM
        replace hR := Lib.hid hR
        replace hB := Lib.hid hB
        go_wp2_with (first
          | (refine wpList_load_row rfl 68 _ rfl _ rfl 68 _ (0, 0) _ (hD) Try.underlying68 rfl (row26 (d17 _ _ (hcl.out))) ?_)
          | (refine wpList_store_own rfl 68 _ _ rfl _ _ rfl rfl 68 _ (hR.out) (row26 (d17 _ _ (hcl.out))) (z_eq (d17 _ _ hcl.out)) (dcells_one _ _) ?_; intro w6 hO3 hN3))
        refine bodyPost_ret (v := .tuple #[.agg (dcells u CL), .int .i64 0]) (results_row_tmp rfl _ _ _ _ _ (0, 0) _ rfl (hO3) Try.underlying68 rfl (row26 (d17 _ _ (hcl.out))) _ rfl) rfl (⟨rfl, ?_⟩)
        exact hB.out.trans (hN3.below.mono (by omega))

end Go.Proofs.Ytpmcngmphkegnaa
