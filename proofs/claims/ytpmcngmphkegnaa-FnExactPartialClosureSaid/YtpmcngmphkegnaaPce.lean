/- PartialClosure: the sides. (Written by genpce.py.) -/
import Derived.Test.YtpmcngmphkegnaaPcs
import Derived.Test.YtpmcngmphkegnaaPck
import Derived.Test.YtpmcngmphkegnaaMtm
import Derived.Test.YtpmcngmphkegnaaElA
import Derived.Test.YtpmcngmphkegnaaKi
import Derived.Test.YtpmcngmphkegnaaScl
import Derived.Test.YtpmcngmphkegnaaPos
namespace Go.Proofs.Ytpmcngmphkegnaa
open Go.RowKit Go.Lib
set_option linter.unusedVariables false
set_option linter.unusedSimpArgs false
theorem clO_bd (n : Int) (ms : List Int) : 0 ≤ clO n ms ∧ clO n ms ≤ 100 := by unfold clO; split <;> omega
theorem clO_one (n : Int) (ms : List Int) : 0 ≤ clO n ms ∧ clO n ms ≤ 1 := by unfold clO; split <;> omega
theorem pce_vd {n : Int} {ms : List Int} (h8 : n ≠ 1) (h : VD (n, ms)) : VD (n - 1, clL n ms) := clL_vd (by have := VD.size h; simp at this; omega) h
theorem pceS_call {n : Int} {ms : List Int} (h8 : n ≠ 1) (h : VD (n, ms)) (w : World) :
    Calls Try.prog 71 #[.agg (dcells n ms)] w fun e w' => e = .returned (.tuple #[.agg (dcells (n - 1) (clL n ms)), .int .i64 (clO n ms)]) ∧ Below w.heap.size w w' := clS_any n ms (by have := VD.size h; simp at this; omega) h w
set_option maxRecDepth 100000 in
theorem pceC_enters (args : Array Value) (w : World) : (callFunc 73 args).run Try.prog w = .ok (.enter 73 args) w := by kernel_rfl
theorem pceC_any (n : Int) (ms : List Int) (h2 : 2 ≤ n) (h : VD (n, ms)) (w : World) :
    Calls Try.prog 73 (#[.agg (dcells n ms)] ++ #[]) w fun e w' => e = .returned (.tuple #[.agg (dcells (n - 1) (clL n ms)), .int .i64 (clO n ms)]) ∧ Below w.heap.size w w' := clI_any n ms h2 h w
theorem box_cells {w : World} {g : Nat} {n : Int} {ms : List Int} (h : Own w g (dcells n ms) 68) : ∀ (j : Nat) (v : Value), (dcells n ms).toList[j]? = some v → w.cell? ((⟨g, 0, none⟩ : Addr).add j) = some v := by
  intro j v hj
  rw [Addr.add_mid, Nat.zero_add, h.cell]
  simpa using hj
set_option maxRecDepth 100000 in
set_option maxHeartbeats 16000000 in
theorem pceS_ok (p c n : Int) (a1 cap1 : Nat) (ts : List Tm) (hts : ∀ t ∈ ts, t.2.1.length = 16 ∧ Bytes t.2.1) (hx : ts.length ≤ 1048576) (he : elB p c n ts = true) (h8 : n ≠ 1) (w : World) (hR : RdT w (some ⟨a1, 0, none⟩) ts) :
    Calls Try.prog 31 #[.agg (ecl p c n (.slice (some ⟨a1, 0, none⟩) ts.length cap1))] w fun e w' => (∃ q cap, e = .returned (.tuple #[.agg (ecl p c (n - 1) (.slice q (mvN p c (n - 1) (fun ms => clL n ms) (fun ms => clO n ms) ts).length cap)), .int .i64 0]) ∧ Res w' w.heap.size q (mvN p c (n - 1) (fun ms => clL n ms) (fun ms => clO n ms) ts)) ∧ Below w.heap.size w w' := by
  obtain ⟨hpr0, hc, hn, hl0, hG0, hsz, hp, hp2, hto⟩ := elB_good he hts
  have hn8 : (n == 1) = false := by simp; omega
  have h2n : 2 ≤ n := by omega
  have hpp : 0 < p := by omega
  have hi := Lib.hid (fun w hR => elS_any p c n (some ⟨a1, 0, none⟩) cap1 ts hts hx (by omega) w hR)
  rw [he] at hi
  have hgy := Lib.hid (fun (i : Nat) (hi0 : i < ts.length) => show ∃ dm f, ts.getD i zT = (n, dm, f) ∧ VD (n, dm) ∧ 0 ≤ f ∧ f ≤ 100 ∧ ts[i] = (n, dm, f) from by
    obtain ⟨⟨dn, dm, f⟩, h⟩ : ∃ t, ts[i] = t := ⟨_, rfl⟩
    have hm : (dn, dm, f) ∈ ts := by rw [← h]; exact List.getElem_mem hi0
    obtain rfl := hsz _ hm
    obtain ⟨b, c, d⟩ := hto _ hm
    exact ⟨dm, f, by rw [List.getD_eq_getElem?_getD, List.getElem?_eq_getElem hi0, h]; rfl, b, c, d, h⟩)
  have hvt : ∀ t ∈ ts, VD (n - 1, (fun ms => clL n ms) t.2.1) := fun t ht => by
    have h1 := hsz t ht
    have h2 : VD (t.1, t.2.1) := (hto t ht).1
    rw [h1] at h2
    exact pce_vd h8 h2
  obtain ⟨G, hG⟩ : ∃ G : Nat → List Tm, G = fun j => adds p ((ts.take j).map (mvT p c (n - 1) (fun ms => clL n ms) (fun ms => clO n ms))) [] := ⟨_, rfl⟩
  have hG0' := Lib.hid (show G 0 = [] by rw [hG]; rfl)
  have hGe := Lib.hid (show G ts.length = mvN p c (n - 1) (fun ms => clL n ms) (fun ms => clO n ms) ts by rw [hG]; unfold mvN; simp only [List.take_length])
  have hGs := Lib.hid (fun (j : Nat) (hj : j < ts.length) => show G (j + 1) = addT p (mvT p c (n - 1) (fun ms => clL n ms) (fun ms => clO n ms) ts[j]).1 (mvT p c (n - 1) (fun ms => clL n ms) (fun ms => clO n ms) ts[j]).2 (G j) from by
    rw [hG]
    have := adds_take p (ts.map (mvT p c (n - 1) (fun ms => clL n ms) (fun ms => clO n ms))) [] j (by rw [List.length_map]; exact hj)
    rw [List.getElem_map, ← List.map_take, ← List.map_take] at this
    exact this)
  have hGg := Lib.hid (fun j => show GoodT p (G j) from by
    rw [hG]
    refine adds_good hpp _ _ (fun u hu => ?_) (Good.nil p)
    obtain ⟨t, ht, rfl⟩ := List.mem_map.1 hu
    exact hvt t (List.mem_of_mem_take ht))
  have hGl := Lib.hid (fun j => show (G j).length ≤ 20000 from by
    rw [hG]
    have h1 := adds_len p ((ts.take j).map (mvT p c (n - 1) (fun ms => clL n ms) (fun ms => clO n ms))) []
    rw [List.length_map, List.length_take, List.length_nil] at h1
    show (adds p ((ts.take j).map (mvT p c (n - 1) (fun ms => clL n ms) (fun ms => clO n ms))) []).length ≤ 20000
    omega)
  have hR2' := Lib.hid (fun w' (hb : Below w.heap.size w w') => hR.below hb)
  have hem := Lib.hid (fun w => emptyS_any p c n (some ⟨a1, 0, none⟩) ts.length cap1 w)
  obtain ⟨R, hRR⟩ : ∃ R, mvN p c (n - 1) (fun ms => clL n ms) (fun ms => clO n ms) ts = R := ⟨_, rfl⟩
  rw [hRR] at hGe ⊢
  obtain ⟨l, hl⟩ : ∃ l, ts.length = l := ⟨_, rfl⟩
  have hll := Lib.hid hl
  rw [hl] at hGe hem hi hl0
  rw [hl]
  replace hc := Lib.hid hc
  clear hts hx he hR hpr0 hG0 hsz hto hvt hG hRR hl
  unfold ecl at *
  go_enter Try.func31, Try.ntmps31
  go_upto_region 9 with (first
    | (go_at_call 55; (have wb := (((Below.refl w.heap.size w).alloc (Nat.le_refl _) (.cells #[.int .i64 p, .int .i64 c, .int .i64 n, .slice (some ⟨a1, 0, none⟩) l cap1] 28)).alloc (by simp) (.cells #[.int .i64 0, .int .i64 0, .int .i64 0, .slice none 0 0] 28)); (with_reducible refine (hi.out _ (hR2'.out _ wb)).mono ?_); rintro e w1 ⟨rfl, hB1⟩; have oX1 := ((Own.new w #[.int .i64 p, .int .i64 c, .int .i64 n, .slice (some ⟨a1, 0, none⟩) l cap1] 28).alloc (.cells #[.int .i64 0, .int .i64 0, .int .i64 0, .slice none 0 0] 28)).below hB1 (by simp; omega); have oR1 := (Own.at (w.alloc (.cells #[.int .i64 p, .int .i64 c, .int .i64 n, .slice (some ⟨a1, 0, none⟩) l cap1] 28)) #[.int .i64 0, .int .i64 0, .int .i64 0, .slice none 0 0] 28 (by simp : _ = w.heap.size + 1)).below hB1 (by simp); have b1 : Below w.heap.size w w1 := wb.trans (hB1.mono (by simp; omega)); have x2 : w1.cell? ⟨w.heap.size, 2, none⟩ = some (.int .i64 n) := oX1.cell 2; clear hB1 wb))
    | (go_at_call 57; ((with_reducible refine (hem.out w1).mono ?_); rintro e w2 ⟨g1, rfl, hg1, hO1, hB2⟩; have oX2 := oX1.below hB2 oX1.lt; have oR2 := oR1.below hB2 oR1.lt; have b2 := b1.trans (hB2.mono b1.size)))
    | (refine wpList_load_row rfl 28 _ rfl _ rfl 28 _ (0, 0) _ oX1 Try.underlying28 rfl (by kernel_rfl) ?_)
    | (refine wpList_load_row rfl 28 _ rfl _ rfl 28 _ (0, 0) _ ((Own.new w _ _).alloc _) Try.underlying28 rfl (by kernel_rfl) ?_)
    | (refine wpList_store_own rfl 28 _ _ rfl _ _ rfl rfl 28 _ (Own.new w2 _ _) (by kernel_rfl) rfl (by simp [Value.oneCell']) ?_; intro w3 oE3 hN3; have x3 : w3.cell? ⟨w.heap.size, 2, none⟩ = some (.int .i64 n) := ((oX2.alloc _).only hN3 (by have := oX2.lt; omega)).cell 2; have e3 : w3.cell? ⟨w2.heap.size, 2, none⟩ = some (.int .i64 n) := oE3.cell 2; have f3 := oE3.free 2))
  have lX := oX2.lt
  have lR := oR2.lt
  have lO := hO1.lt
  have hg1b := hg1
  have lR1 := oR1.lt
  have oX3 := (oX2.alloc _).only hN3 (by omega)
  have oR3 := (oR2.alloc _).only hN3 (by omega)
  have hM3 : MnT w3 w.heap.size g1 [] := ⟨by have := b1.size; omega, [], (hO1.alloc _).only hN3 (by omega)⟩
  have b3 : Below w.heap.size w w3 := (b2.alloc b2.size _).trans (hN3.below.mono b2.size)
  have oE9 : Own (w3.setCell ⟨w2.heap.size, 2, none⟩ (.int .i64 (n - 1))) w2.heap.size #[.int .i64 p, .int .i64 c, .int .i64 (n - 1), .slice (some ⟨g1, 0, none⟩) 0 0] 28 := oE3.set 2 (.int .i64 (n - 1))
  have oX9 : Own (w3.setCell ⟨w2.heap.size, 2, none⟩ (.int .i64 (n - 1))) w.heap.size #[.int .i64 p, .int .i64 c, .int .i64 n, .slice (some ⟨a1, 0, none⟩) l cap1] 28 := (Below.heap_setCell _ _ _ _ (by show w.heap.size ≠ w2.heap.size; omega)).trans oX3
  have oR9 : Own (w3.setCell ⟨w2.heap.size, 2, none⟩ (.int .i64 (n - 1))) (w.heap.size + 1) #[.int .i64 0, .int .i64 0, .int .i64 0, .slice none 0 0] 28 := (Below.heap_setCell _ _ _ _ (by show w.heap.size + 1 ≠ w2.heap.size; omega)).trans oR3
  have hM9 : MnT (w3.setCell ⟨w2.heap.size, 2, none⟩ (.int .i64 (n - 1))) w.heap.size g1 [] := by
    obtain ⟨h0, sp, ho⟩ := hM3
    exact ⟨h0, sp, (Below.heap_setCell _ _ _ _ (by show g1 ≠ w2.heap.size; omega)).trans ho⟩
  have b9 := b3.setCell (p := ⟨w2.heap.size, 2, none⟩) (by show w.heap.size ≤ w2.heap.size; omega) (.int .i64 (n - 1))
  clear oE3 oX3 oR3 hM3 b3 x3 e3 f3
  obtain ⟨w9, hw9⟩ : ∃ x, (w3.setCell ⟨w2.heap.size, 2, none⟩ (.int .i64 (n - 1))) = x := ⟨_, rfl⟩
  rw [hw9] at oE9 oX9 oR9 hM9 b9 ⊢
  clear hw9
  have oE3 := oE9
  have oX3 := oX9
  have oR3 := oR9
  have hM3 := hM9
  have b3 := b9
  clear oE9 oX9 oR9 hM9 b9
  obtain ⟨e4, he4⟩ : ∃ e4, w2.heap.size = e4 := ⟨_, rfl⟩
  rw [he4] at oE3 lX lR lO ⊢
  have e4b : w.heap.size + 1 < e4 := by omega
  clear oX1 oR1 hO1 b1 hN3 he4 oX2 oR2 b2 hB2
  go_wp2
  go_loopw [5] (fun x wr => ∃ j g cap : Nat, j ≤ l ∧ x = .int .i64 j ∧ (G j).length ≤ cap ∧ Own wr w.heap.size #[.int .i64 p, .int .i64 c, .int .i64 n, .slice (some ⟨a1, 0, none⟩) l cap1] 28 ∧ Own wr (w.heap.size + 1) #[.int .i64 0, .int .i64 0, .int .i64 0, .slice none 0 0] 28 ∧ Own wr e4 #[.int .i64 p, .int .i64 c, .int .i64 (n - 1), .slice (some ⟨g, 0, none⟩) (G j).length cap] 28 ∧ MnT wr w.heap.size g (G j) ∧ Below w.heap.size w wr) (fun x _ => (l - intOf x).toNat)
  case atStart => exact ⟨0, g1, 0, by omega, rfl, by rw [hG0'.out]; simp, oX3, oR3, by rw [hG0'.out]; exact oE3, by rw [hG0'.out]; exact hM3, b3⟩
  case round =>
    clear oX3 oR3 oE3 hM3 b3
    obtain ⟨j, g, cap, hj, rfl, hcap, oX, oR, oE, hM, hB⟩ := hrel
    have y3 : wr.cell? ⟨w.heap.size, 3, none⟩ = some (.slice (some ⟨a1, 0, none⟩) l cap1) := oX.cell 3
    by_cases hlt : j < l
    · have lJ : (j : Int) < (l : Int) := by omega
      obtain ⟨em, f2, htd2, hvd2, k0, k1, hyj⟩ := hgy.out j (by rw [hll.out]; exact hlt)
      have hGj := hGs.out j (by rw [hll.out]; exact hlt)
      rw [hyj] at hGj
      have hGj2 : G (j + 1) = addT p (n - 1, (fun ms => clL n ms) em) (f2 * pw p c (clO n em).toNat) (G j) := hGj
      have hcY := Lib.hid (fun wd (hb : Below w.heap.size w wd) j' v (hv : (dcells n em).toList[j']? = some v) => show wd.cell? ((⟨a1, j * 18, none⟩ : Addr).add j') = some v from by
        have := (hR2'.out wd hb).cell _ rfl j (by rw [hll.out]; exact hlt) j' v (by rw [htd2]; exact tcl_dia hv)
        rw [Addr.add_mid (o := 0), Nat.zero_add] at this
        exact this)
      have hfY := Lib.hid (fun wd (hb : Below w.heap.size w wd) => show wd.cell? ⟨a1, j * 18 + 17, none⟩ = some (.int .i64 f2) from by
        have := (hR2'.out wd hb).cell _ rfl j (by rw [hll.out]; exact hlt) 17 _ (by rw [htd2]; exact tcl_fac hvd2.2.1)
        rw [Addr.add_mid (o := 0), Nat.zero_add, Addr.add_mid] at this
        exact this)
      have hel := Lib.hid hvd2.2.1
      have hpv := pce_vd h8 hvd2
      have hcl := Lib.hid (fun w => pceS_call h8 hvd2 w)
      obtain ⟨P, hP⟩ : ∃ P, (fun ms => clL n ms) em = P := ⟨_, rfl⟩
      rw [hP] at hGj2
      have hP' : clL n em = P := hP
      rw [hP'] at hcl hpv
      have hob := clO_one n em
      obtain ⟨lq, hlq⟩ : ∃ x, clO n em = x := ⟨_, rfl⟩
      rw [hlq] at hob hcl hGj2
      obtain ⟨ln, rfl⟩ : ∃ x : Nat, lq = (x : Int) := ⟨lq.toNat, by omega⟩
      rw [Int.toNat_natCast] at hGj2
      have hpwc := Lib.hid (fun w => (powS_any p c ln w hp hp2 hc.out.1 hc.out.2 (by omega)).mono fun e w' h => (show e = .returned (.int .i64 (pw p c ln)) ∧ w' = w from ⟨h.1, h.2.symm⟩))
      have hpr0 := pw_range p c hp ln
      obtain ⟨v, hv⟩ : ∃ v, pw p c ln = v := ⟨_, rfl⟩
      rw [hv] at hpwc hpr0 hGj2
      have m1 : 0 ≤ f2 * v ∧ f2 * v ≤ 10000 := ⟨Int.mul_nonneg k0 hpr0.1, by have h1 := Int.mul_le_mul_of_nonneg_right k1 hpr0.1; have h2 := Int.mul_le_mul_of_nonneg_left (show v ≤ 100 by omega) (show (0 : Int) ≤ 100 by omega); omega⟩
      obtain ⟨u, hu⟩ : ∃ u, f2 * v = u := ⟨_, rfl⟩
      rw [hu] at m1 hGj2
      have wf2 := Lib.hid (show IntKind.i64.wrap (f2 * v) = u by rw [hu]; exact IntWalk.i64_in _ (by omega))
      have hput := Lib.hid (fun wd hMd hB => putS_any w.heap.size g cap (G j) p u (n - 1) P wd hMd hB hcap (hGl.out j) (hGg.out j) hp hp2 (by omega) (by omega) hpv)
      rw [← hGj2] at hput
      have hPl := Lib.hid hpv.2.1
      have ltR := oR.lt
      have ltX := oX.lt
      have ltE := oE.lt
      have ltM := hM.lt
      have szB := Lib.hid hB.size
      clear hvd2 hGj hGj2 htd2 hyj hP hP' hpv hlq hob hv hpr0 m1 hu
      have hcY0 := hcY.out wr hB
      go_upto_region 11 with (first
        | (refine wpList_load_at rfl 68 (.tmp 36) rfl ⟨a1, j * 18, none⟩ rfl (dcells n em).toList _ hcY0 Try.underlying68 rfl (by rw [dl17 hel.out]; kernel_rfl) ?_)
        | (go_at_call 71; ((with_reducible refine (hcl.out wr).mono ?_); rintro e w4 ⟨rfl, hB4⟩))
        | (refine wpList_store_own rfl 68 _ _ rfl _ _ rfl rfl 68 _ (Own.new w4 _ _) (row26 (d17 _ _ (hPl.out))) (z_eq (d17 _ _ hPl.out)) (dcells_one _ _) ?_; intro w5 oD5 hN5))
      have s4 := hB4.size
      have oX5 := ((oX.below hB4 ltX).alloc (.cells zcells 68)).only hN5 (by omega)
      have oR5 := ((oR.below hB4 ltR).alloc (.cells zcells 68)).only hN5 (by omega)
      have oE5 := ((oE.below hB4 ltE).alloc (.cells zcells 68)).only hN5 (by omega)
      have hM5 : MnT w5 w.heap.size g (G j) := by
        obtain ⟨h0, sp, ho⟩ := hM
        exact ⟨h0, sp, ((ho.below hB4 ho.lt).alloc (.cells zcells 68)).only hN5 (by have := ho.lt; omega)⟩
      have b5 : Below w.heap.size w w5 := ((hB.trans (hB4.mono szB.out)).alloc (by have := szB.out; omega) (.cells zcells 68)).trans (hN5.below.mono (by have := szB.out; omega))
      obtain ⟨d6, hd6⟩ : ∃ x, w4.heap.size = x := ⟨_, rfl⟩
      rw [hd6] at oD5 ⊢
      have d6b : w.heap.size + 1 < d6 ∧ e4 < d6 := by omega
      clear oX oR oE hM hB hB4 hN5 hd6 s4 ltX ltE ltM hcY0
      refine wp_region_st (fun x => Below w.heap.size w x ∧ Own x w.heap.size #[.int .i64 p, .int .i64 c, .int .i64 n, .slice (some ⟨a1, 0, none⟩) l cap1] 28 ∧ Own x e4 #[.int .i64 p, .int .i64 c, .int .i64 (n - 1), .slice (some ⟨g, 0, none⟩) (G j).length cap] 28 ∧ Own x d6 (dcells (n - 1) P) 68) [(true, 0), (true, 1), (true, 2), (true, 3), (true, 4), (true, 5), (true, 6), (true, 7), (true, 8), (true, 9), (true, 10), (true, 11), (true, 12), (true, 13), (true, 14), (true, 15), (true, 16), (true, 17), (false, 18)] 19 (by kernel_rfl) (by kernel_rfl) ⟨b5.drew, oX5.drewN 1, oE5.drewN 1, oD5.drewN 1⟩ ?_
      have oXd : Own { w5 with drawn := w5.drawn + 1 } w.heap.size #[.int .i64 p, .int .i64 c, .int .i64 n, .slice (some ⟨a1, 0, none⟩) l cap1] 28 := oX5
      have oRd : Own { w5 with drawn := w5.drawn + 1 } (w.heap.size + 1) #[.int .i64 0, .int .i64 0, .int .i64 0, .slice none 0 0] 28 := oR5
      have oEd : Own { w5 with drawn := w5.drawn + 1 } e4 #[.int .i64 p, .int .i64 c, .int .i64 (n - 1), .slice (some ⟨g, 0, none⟩) (G j).length cap] 28 := oE5
      have oDd : Own { w5 with drawn := w5.drawn + 1 } d6 (dcells (n - 1) P) 68 := oD5
      have hMd : MnT { w5 with drawn := w5.drawn + 1 } w.heap.size g (G j) := hM5
      have hBd : Below w.heap.size w { w5 with drawn := w5.drawn + 1 } := b5.drew
      clear oX5 oR5 oE5 oD5 hM5 b5 y3
      generalize ({ w5 with drawn := w5.drawn + 1 } : World) = w5 at *
      simp only [List.map_cons, List.map_nil, opS'_mk, opN_zero, opN_succ, List.drop_succ_cons, List.drop_zero]
      (apply wpSt_read; · (intro wd hS K hK; clear hS; go_simp; exact hK))
      (apply wpSt_read; · (intro wd hS K hK; have d0 : wd.cell? ⟨w.heap.size, 0, none⟩ = some (.int .i64 p) := hS.2.1.cell 0; clear hS; go_simp; exact hK))
      (apply wpSt_read; · (intro wd hS K hK; clear hS; go_simp; exact hK))
      (apply wpSt_read; · (intro wd hS K hK; have d3 : wd.cell? ⟨e4, 3, none⟩ = some (.slice (some ⟨g, 0, none⟩) (G j).length cap) := hS.2.2.1.cell 3; clear hS; go_simp; exact hK))
      (apply wpSt_read; · (intro wd hS K hK; rw [if_pos (by rfl)]; refine still_load_at 68 (.tmp 6) rfl ⟨d6, 0, none⟩ rfl (dcells (n - 1) P).toList _ (box_cells hS.2.2.2) Try.underlying68 rfl (by rw [dl17 hPl.out]; kernel_rfl) ?_; exact hK))
      (apply wpSt_read; · (intro wd hS K hK; clear hS; go_simp; exact hK))
      (apply wpSt_read; · (intro wd hS K hK; have d3 : wd.cell? ⟨w.heap.size, 3, none⟩ = some (.slice (some ⟨a1, 0, none⟩) l cap1) := hS.2.1.cell 3; clear hS; go_simp; exact hK))
      (apply wpSt_read; · (intro wd hS K hK; clear hS; go_simp; exact hK))
      (apply wpSt_read; · (intro wd hS K hK; clear hS; go_simp; exact hK))
      (apply wpSt_read; · (intro wd hS K hK; clear hS; go_simp; exact hK))
      (apply wpSt_read; · (intro wd hS K hK; have d17 := hfY.out wd hS.1; clear hS; go_simp; exact hK))
      (apply wpSt_read; · (intro wd hS K hK; clear hS; go_simp; exact hK))
      (apply wpSt_read; · (intro wd hS K hK; have d0 : wd.cell? ⟨w.heap.size, 0, none⟩ = some (.int .i64 p) := hS.2.1.cell 0; clear hS; go_simp; exact hK))
      (apply wpSt_read; · (intro wd hS K hK; clear hS; go_simp; exact hK))
      (apply wpSt_read; · (intro wd hS K hK; have d1 : wd.cell? ⟨w.heap.size, 1, none⟩ = some (.int .i64 c) := hS.2.1.cell 1; clear hS; go_simp; exact hK))
      (apply wpSt_read; · (intro wd hS K hK; clear hS; go_simp; exact hK))
      (apply wpSt_read; · (intro wd hS K hK; clear hS; go_simp; exact ⟨_, hpwc.out _, hK⟩))
      (apply wpSt_read; · (intro wd hS K hK; have d9 := wf2.out; clear hS; go_simp; exact hK))
      refine wpSt_keep (fun K hK => ?_)
      go_wp2_with (first
        | (go_at_call 62; ((with_reducible refine (hput.out w5 hMd hBd.size).mono ?_); rintro e w6 ⟨⟨g6, cap6, rfl, hc6, hM6⟩, hB6⟩)))
      have oX6 := oXd.below hB6 oXd.lt
      have oR6 := oRd.below hB6 oRd.lt
      have oE6 := oEd.below hB6 oEd.lt
      have oD6 := oDd.below hB6 oDd.lt
      have b6 := hBd.trans (hB6.mono hBd.size)
      refine hK _ _ ⟨b6, oX6, oE6, oD6⟩ rfl ?_
      clear hK K
      refine wpSt_nil ?_
      have e6 : w6.cell? ⟨e4, 3, none⟩ = some (.slice (some ⟨g, 0, none⟩) (G j).length cap) := oE6.cell 3
      have f6 := oE6.free 3
      go_wp2
      have hs7 : ∀ v j, j ≠ e4 → (w6.setCell ⟨e4, 3, none⟩ v).heap[j]? = w6.heap[j]? := fun v j hj => Below.heap_setCell _ _ _ _ hj
      have oE7 := oE6.set 3 (.slice (some ⟨g6, 0, none⟩) (G (j + 1)).length cap6)
      have b7 := b6.setCell (p := ⟨e4, 3, none⟩) (by show w.heap.size ≤ e4; omega) (.slice (some ⟨g6, 0, none⟩) (G (j + 1)).length cap6)
      have hM7 : MnT (w6.setCell ⟨e4, 3, none⟩ (.slice (some ⟨g6, 0, none⟩) (G (j + 1)).length cap6)) w.heap.size g6 (G (j + 1)) := by
        obtain ⟨h0, sp, ho⟩ := hM6
        exact ⟨h0, sp, ho.only (Only.set e4 3 w6 _) (ho.neTz oE6 (by decide))⟩
      go_roundw
      case rel => exact ⟨j + 1, g6, cap6, by omega, by go_num, hc6, (hs7 _ _ (by omega)).trans oX6, (hs7 _ _ (by omega)).trans oR6, oE7, hM7, b7⟩
      case measure => simp [intOf]; omega
    · obtain rfl : j = l := by omega
      have lJ : ¬ (j : Int) < (j : Int) := by omega
      go_wp2_with (first
        | (refine wpList_load_row rfl 28 _ rfl _ rfl 28 _ (0, 0) _ oE Try.underlying28 rfl (by kernel_rfl) ?_)
        | (refine wpList_store_own rfl 28 _ _ rfl _ _ rfl rfl 28 _ oR (by kernel_rfl) rfl (by simp [Value.oneCell']) ?_; intro w7 oR7 hN7))
      rw [hGe.out] at hcap hM oR7 ⊢
      have hr7 : Res w7 w.heap.size (some ⟨g, 0, none⟩) R := by
        obtain ⟨h0, sp, ho⟩ := hM
        exact Res.own ⟨h0, sp, ho.only hN7 (ho.neTz oR (by decide))⟩
      refine bodyPost_ret (v := .tuple #[.agg #[.int .i64 p, .int .i64 c, .int .i64 (n - 1), .slice (some ⟨g, 0, none⟩) (R).length cap], .int .i64 0]) (results_row_tmp rfl _ _ _ _ _ (0, 0) _ rfl oR7 Try.underlying28 rfl (by kernel_rfl) _ rfl) rfl ⟨⟨_, ⟨cap, rfl⟩, hr7⟩, hB.trans (hN7.below.mono (by omega))⟩
set_option maxRecDepth 100000 in
set_option maxHeartbeats 4000000 in
theorem pceI_ok (p c n : Int) (a cap : Nat) (ts : List Tm) (hts : ∀ t ∈ ts, t.2.1.length = 16 ∧ Bytes t.2.1) (hx : ts.length ≤ 1048576) (he : elB p c n ts = true) (h8 : n ≠ 1) (w : World) (hR : RdT w (some ⟨a, 0, none⟩) ts) :
    Calls Try.prog 32 #[.agg (ecl p c n (.slice (some ⟨a, 0, none⟩) ts.length cap))] w fun e w' => (∃ q cap, e = .returned (.tuple #[.agg (ecl p c (n - 1) (.slice q (mvN p c (n - 1) (fun ms => clL n ms) (fun ms => clO n ms) ts).length cap)), .int .i64 0]) ∧ Res w' w.heap.size q (mvN p c (n - 1) (fun ms => clL n ms) (fun ms => clO n ms) ts)) ∧ Below w.heap.size w w' := by
  obtain ⟨hpr0, hc, hn, hl0, hG0, hsz, hp, hp2, hto⟩ := elB_good he hts
  have hi := Lib.hid (fun w hR => elI_any p c n (some ⟨a, 0, none⟩) cap ts hts hx w hR)
  rw [he] at hi
  have hX : ∀ t ∈ ts, t.1 = n ∧ VD (kTm t) ∧ 0 ≤ t.2.2 ∧ t.2.2 ≤ 100 := fun t ht => ⟨hsz t ht, (hto t ht).1, (hto t ht).2.1, (hto t ht).2.2⟩
  have h2 : 2 ≤ n := by omega
  have hn8 : (n == 1) = false := by simp; omega
  have hmv := Lib.hid (fun W h1 => moveI_any 73 #[] (fun ms => clL n ms) (fun ms => clO n ms) p c n (n - 1) (some ⟨a, 0, none⟩) cap ts hX hl0 hp hp2 hc.1 hc.2 W h1 pceC_enters (fun W2 (_ : Below W.heap.size W W2) ms h => pceC_any n ms h2 h W2) (fun ms h => ⟨clL_vd h2 h, clO_bd n ms⟩))
  obtain ⟨R, hRR⟩ : ∃ R, mvN p c (n - 1) (fun ms => clL n ms) (fun ms => clO n ms) ts = R := ⟨_, rfl⟩
  rw [hRR] at hmv ⊢
  obtain ⟨l, hll⟩ : ∃ l, ts.length = l := ⟨_, rfl⟩
  rw [hll] at hi hmv ⊢
  have hR' := Lib.hid (fun w' (hb : Below w.heap.size w w') => hR.below hb)
  clear hts hx he hR hpr0 hc hl0 hG0 hsz hto hX hRR hll
  unfold ecl at *
  go_enter Try.func32, Try.ntmps32
  go_wp2_with (first
    | (go_at_call 58; (have wb := (((Below.refl w.heap.size w).alloc (Nat.le_refl _) (.cells #[.int .i64 p, .int .i64 c, .int .i64 n, .slice (some ⟨a, 0, none⟩) l cap] 28)).alloc (by simp) (.cells #[.int .i64 0, .int .i64 0, .int .i64 0, .slice none 0 0] 28)); (with_reducible refine (hi.out _ (hR'.out _ wb)).mono ?_); rintro e w1 ⟨rfl, hB1⟩; have oX1 := ((Own.new w #[.int .i64 p, .int .i64 c, .int .i64 n, .slice (some ⟨a, 0, none⟩) l cap] 28).alloc (.cells #[.int .i64 0, .int .i64 0, .int .i64 0, .slice none 0 0] 28)).below hB1 (by simp; omega); have x2 : w1.cell? ⟨w.heap.size, 2, none⟩ = some (.int .i64 n) := oX1.cell 2; have oR1 := (Own.at (w.alloc (.cells #[.int .i64 p, .int .i64 c, .int .i64 n, .slice (some ⟨a, 0, none⟩) l cap] 28)) #[.int .i64 0, .int .i64 0, .int .i64 0, .slice none 0 0] 28 (by simp : _ = w.heap.size + 1)).below hB1 (by simp); have b1 : Below w.heap.size w w1 := wb.trans (hB1.mono (by simp; omega)); clear hB1 wb))
    | (refine wpList_load_row rfl 28 _ rfl _ rfl 28 _ (0, 0) _ ((Own.new w _ _).alloc _) Try.underlying28 rfl (by kernel_rfl) ?_)
    | (refine wpList_load_row rfl 28 _ rfl _ rfl 28 _ (0, 0) _ oX1 Try.underlying28 rfl (by kernel_rfl) ?_)
    | (go_at_call 64; ((with_reducible refine (hmv.out w1 (hR'.out _ b1)).mono ?_); rintro e w4 ⟨⟨qt, ct, rfl, hr4⟩, hB4⟩; have oR3 := oR1; have b3 := b1; have oR4 := oR1.below hB4 oR1.lt; have b4 := b1.trans (hB4.mono b1.size)))
    | (refine wpList_store_own rfl 28 _ _ rfl _ _ rfl rfl 28 _ oR4 (by kernel_rfl) rfl (by simp [Value.oneCell']) ?_; intro w5 oR5 hN5))
  have hr5 : Res w5 w.heap.size qt R := (hr4.onl hN5 (by have := b3.size; have := Own.lt oR3; omega)).weak b3.size
  refine bodyPost_ret (v := .tuple #[.agg #[.int .i64 p, .int .i64 c, .int .i64 (n - 1), .slice qt R.length ct], .int .i64 0]) (results_row_tmp rfl _ _ _ _ _ (0, 0) _ rfl oR5 Try.underlying28 rfl (by kernel_rfl) _ rfl) rfl ⟨⟨qt, ct, rfl, hr5⟩, b4.trans (hN5.below.mono (by omega))⟩
set_option maxRecDepth 100000 in
set_option maxHeartbeats 4000000 in
theorem pceI_b1 (p c n : Int) (a cap : Nat) (ts : List Tm) (hts : ∀ t ∈ ts, t.2.1.length = 16 ∧ Bytes t.2.1) (hx : ts.length ≤ 1048576) (he : elB p c n ts = false) (w : World) (hR : RdT w (some ⟨a, 0, none⟩) ts) :
    Calls Try.prog 32 #[.agg (ecl p c n (.slice (some ⟨a, 0, none⟩) ts.length cap))] w fun e w' => e = .returned (.tuple #[.agg (ecl 0 0 0 (.slice none 0 0)), .int .i64 1]) ∧ Below w.heap.size w w' := by
  have hi := Lib.hid (fun w hR => elI_any p c n (some ⟨a, 0, none⟩) cap ts hts hx w hR)
  rw [he] at hi
  obtain ⟨l, hll⟩ : ∃ l, ts.length = l := ⟨_, rfl⟩
  rw [hll] at hi ⊢
  have hR' := Lib.hid (fun w' (hb : Below w.heap.size w w') => hR.below hb)
  have b00 := built00
  clear hts hx he hR hll
  unfold ecl at *
  go_enter Try.func32, Try.ntmps32
  go_wp2_with (first
    | (go_at_call 58; (have wb := (((Below.refl w.heap.size w).alloc (Nat.le_refl _) (.cells #[.int .i64 p, .int .i64 c, .int .i64 n, .slice (some ⟨a, 0, none⟩) l cap] 28)).alloc (by simp) (.cells #[.int .i64 0, .int .i64 0, .int .i64 0, .slice none 0 0] 28)); (with_reducible refine (hi.out _ (hR'.out _ wb)).mono ?_); rintro e w1 ⟨rfl, hB1⟩; have oX1 := ((Own.new w #[.int .i64 p, .int .i64 c, .int .i64 n, .slice (some ⟨a, 0, none⟩) l cap] 28).alloc (.cells #[.int .i64 0, .int .i64 0, .int .i64 0, .slice none 0 0] 28)).below hB1 (by simp; omega); have x2 : w1.cell? ⟨w.heap.size, 2, none⟩ = some (.int .i64 n) := oX1.cell 2; have oR1 := (Own.at (w.alloc (.cells #[.int .i64 p, .int .i64 c, .int .i64 n, .slice (some ⟨a, 0, none⟩) l cap] 28)) #[.int .i64 0, .int .i64 0, .int .i64 0, .slice none 0 0] 28 (by simp : _ = w.heap.size + 1)).below hB1 (by simp); have b1 : Below w.heap.size w w1 := wb.trans (hB1.mono (by simp; omega)); clear hB1 wb))
    | (refine wpList_load_row rfl 28 _ rfl _ rfl 28 _ (0, 0) _ ((Own.new w _ _).alloc _) Try.underlying28 rfl (by kernel_rfl) ?_)
    | (refine wpList_store_own rfl 28 _ _ rfl _ _ rfl rfl 28 _ oR1 (by kernel_rfl) rfl (by simp [Value.oneCell']) ?_; intro w5 oR5 hN5))
  refine bodyPost_ret (v := .tuple #[.agg #[.int .i64 0, .int .i64 0, .int .i64 0, .slice none 0 0], .int .i64 1]) (results_row_tmp rfl _ _ _ _ _ (0, 0) _ rfl oR5 Try.underlying28 rfl (by kernel_rfl) _ rfl) rfl ⟨rfl, b1.trans (hN5.below.mono (by omega))⟩
set_option maxRecDepth 100000 in
set_option maxHeartbeats 4000000 in
theorem pceS_b1 (p c n : Int) (a cap : Nat) (ts : List Tm) (hts : ∀ t ∈ ts, t.2.1.length = 16 ∧ Bytes t.2.1) (hx : ts.length ≤ 1048576) (hpw : -9223372036854775808 ≤ p ∧ p ≤ 9223372036854775807) (he : elB p c n ts = false) (w : World) (hR : RdT w (some ⟨a, 0, none⟩) ts) :
    Calls Try.prog 31 #[.agg (ecl p c n (.slice (some ⟨a, 0, none⟩) ts.length cap))] w fun e w' => e = .returned (.tuple #[.agg (ecl 0 0 0 (.slice none 0 0)), .int .i64 1]) ∧ Below w.heap.size w w' := by
  have hi := Lib.hid (fun w hR => elS_any p c n (some ⟨a, 0, none⟩) cap ts hts hx hpw w hR)
  rw [he] at hi
  obtain ⟨l, hll⟩ : ∃ l, ts.length = l := ⟨_, rfl⟩
  rw [hll] at hi ⊢
  have hR' := Lib.hid (fun w' (hb : Below w.heap.size w w') => hR.below hb)
  have b00 := built00
  clear hts hx he hR hll
  unfold ecl at *
  go_enter Try.func31, Try.ntmps31
  go_wp2_with (first
    | (go_at_call 55; (have wb := (((Below.refl w.heap.size w).alloc (Nat.le_refl _) (.cells #[.int .i64 p, .int .i64 c, .int .i64 n, .slice (some ⟨a, 0, none⟩) l cap] 28)).alloc (by simp) (.cells #[.int .i64 0, .int .i64 0, .int .i64 0, .slice none 0 0] 28)); (with_reducible refine (hi.out _ (hR'.out _ wb)).mono ?_); rintro e w1 ⟨rfl, hB1⟩; have oX1 := ((Own.new w #[.int .i64 p, .int .i64 c, .int .i64 n, .slice (some ⟨a, 0, none⟩) l cap] 28).alloc (.cells #[.int .i64 0, .int .i64 0, .int .i64 0, .slice none 0 0] 28)).below hB1 (by simp; omega); have x2 : w1.cell? ⟨w.heap.size, 2, none⟩ = some (.int .i64 n) := oX1.cell 2; have oR1 := (Own.at (w.alloc (.cells #[.int .i64 p, .int .i64 c, .int .i64 n, .slice (some ⟨a, 0, none⟩) l cap] 28)) #[.int .i64 0, .int .i64 0, .int .i64 0, .slice none 0 0] 28 (by simp : _ = w.heap.size + 1)).below hB1 (by simp); have b1 : Below w.heap.size w w1 := wb.trans (hB1.mono (by simp; omega)); clear hB1 wb))
    | (refine wpList_load_row rfl 28 _ rfl _ rfl 28 _ (0, 0) _ ((Own.new w _ _).alloc _) Try.underlying28 rfl (by kernel_rfl) ?_)
    | (refine wpList_store_own rfl 28 _ _ rfl _ _ rfl rfl 28 _ oR1 (by kernel_rfl) rfl (by simp [Value.oneCell']) ?_; intro w5 oR5 hN5))
  refine bodyPost_ret (v := .tuple #[.agg #[.int .i64 0, .int .i64 0, .int .i64 0, .slice none 0 0], .int .i64 1]) (results_row_tmp rfl _ _ _ _ _ (0, 0) _ rfl oR5 Try.underlying28 rfl (by kernel_rfl) _ rfl) rfl ⟨rfl, b1.trans (hN5.below.mono (by omega))⟩
set_option maxRecDepth 100000 in
set_option maxHeartbeats 4000000 in
theorem pceI_b2 (p c n : Int) (a cap : Nat) (ts : List Tm) (hts : ∀ t ∈ ts, t.2.1.length = 16 ∧ Bytes t.2.1) (hx : ts.length ≤ 1048576) (he : elB p c n ts = true) (hn : n = 1) (w : World) (hR : RdT w (some ⟨a, 0, none⟩) ts) :
    Calls Try.prog 32 #[.agg (ecl p c n (.slice (some ⟨a, 0, none⟩) ts.length cap))] w fun e w' => e = .returned (.tuple #[.agg (ecl 0 0 0 (.slice none 0 0)), .int .i64 2]) ∧ Below w.heap.size w w' := by
  have hi := Lib.hid (fun w hR => elI_any p c n (some ⟨a, 0, none⟩) cap ts hts hx w hR)
  rw [he] at hi
  obtain ⟨l, hll⟩ : ∃ l, ts.length = l := ⟨_, rfl⟩
  rw [hll] at hi ⊢
  have hR' := Lib.hid (fun w' (hb : Below w.heap.size w w') => hR.below hb)
  have b00 := built00
  clear hts hx he hR hll
  have hne : (n == 1) = true := by simp [hn]
  clear hn
  unfold ecl at *
  go_enter Try.func32, Try.ntmps32
  go_wp2_with (first
    | (go_at_call 58; (have wb := (((Below.refl w.heap.size w).alloc (Nat.le_refl _) (.cells #[.int .i64 p, .int .i64 c, .int .i64 n, .slice (some ⟨a, 0, none⟩) l cap] 28)).alloc (by simp) (.cells #[.int .i64 0, .int .i64 0, .int .i64 0, .slice none 0 0] 28)); (with_reducible refine (hi.out _ (hR'.out _ wb)).mono ?_); rintro e w1 ⟨rfl, hB1⟩; have oX1 := ((Own.new w #[.int .i64 p, .int .i64 c, .int .i64 n, .slice (some ⟨a, 0, none⟩) l cap] 28).alloc (.cells #[.int .i64 0, .int .i64 0, .int .i64 0, .slice none 0 0] 28)).below hB1 (by simp; omega); have x2 : w1.cell? ⟨w.heap.size, 2, none⟩ = some (.int .i64 n) := oX1.cell 2; have oR1 := (Own.at (w.alloc (.cells #[.int .i64 p, .int .i64 c, .int .i64 n, .slice (some ⟨a, 0, none⟩) l cap] 28)) #[.int .i64 0, .int .i64 0, .int .i64 0, .slice none 0 0] 28 (by simp : _ = w.heap.size + 1)).below hB1 (by simp); have b1 : Below w.heap.size w w1 := wb.trans (hB1.mono (by simp; omega)); clear hB1 wb))
    | (refine wpList_load_row rfl 28 _ rfl _ rfl 28 _ (0, 0) _ ((Own.new w _ _).alloc _) Try.underlying28 rfl (by kernel_rfl) ?_)
    | (refine wpList_store_own rfl 28 _ _ rfl _ _ rfl rfl 28 _ oR1 (by kernel_rfl) rfl (by simp [Value.oneCell']) ?_; intro w5 oR5 hN5))
  refine bodyPost_ret (v := .tuple #[.agg #[.int .i64 0, .int .i64 0, .int .i64 0, .slice none 0 0], .int .i64 2]) (results_row_tmp rfl _ _ _ _ _ (0, 0) _ rfl oR5 Try.underlying28 rfl (by kernel_rfl) _ rfl) rfl ⟨rfl, b1.trans (hN5.below.mono (by omega))⟩
set_option maxRecDepth 100000 in
set_option maxHeartbeats 4000000 in
theorem pceS_b2 (p c n : Int) (a cap : Nat) (ts : List Tm) (hts : ∀ t ∈ ts, t.2.1.length = 16 ∧ Bytes t.2.1) (hx : ts.length ≤ 1048576) (hpw : -9223372036854775808 ≤ p ∧ p ≤ 9223372036854775807) (he : elB p c n ts = true) (hn : n = 1) (w : World) (hR : RdT w (some ⟨a, 0, none⟩) ts) :
    Calls Try.prog 31 #[.agg (ecl p c n (.slice (some ⟨a, 0, none⟩) ts.length cap))] w fun e w' => e = .returned (.tuple #[.agg (ecl 0 0 0 (.slice none 0 0)), .int .i64 2]) ∧ Below w.heap.size w w' := by
  have hi := Lib.hid (fun w hR => elS_any p c n (some ⟨a, 0, none⟩) cap ts hts hx hpw w hR)
  rw [he] at hi
  obtain ⟨l, hll⟩ : ∃ l, ts.length = l := ⟨_, rfl⟩
  rw [hll] at hi ⊢
  have hR' := Lib.hid (fun w' (hb : Below w.heap.size w w') => hR.below hb)
  have b00 := built00
  clear hts hx he hR hll
  have hne : (n == 1) = true := by simp [hn]
  clear hn
  unfold ecl at *
  go_enter Try.func31, Try.ntmps31
  go_wp2_with (first
    | (go_at_call 55; (have wb := (((Below.refl w.heap.size w).alloc (Nat.le_refl _) (.cells #[.int .i64 p, .int .i64 c, .int .i64 n, .slice (some ⟨a, 0, none⟩) l cap] 28)).alloc (by simp) (.cells #[.int .i64 0, .int .i64 0, .int .i64 0, .slice none 0 0] 28)); (with_reducible refine (hi.out _ (hR'.out _ wb)).mono ?_); rintro e w1 ⟨rfl, hB1⟩; have oX1 := ((Own.new w #[.int .i64 p, .int .i64 c, .int .i64 n, .slice (some ⟨a, 0, none⟩) l cap] 28).alloc (.cells #[.int .i64 0, .int .i64 0, .int .i64 0, .slice none 0 0] 28)).below hB1 (by simp; omega); have x2 : w1.cell? ⟨w.heap.size, 2, none⟩ = some (.int .i64 n) := oX1.cell 2; have oR1 := (Own.at (w.alloc (.cells #[.int .i64 p, .int .i64 c, .int .i64 n, .slice (some ⟨a, 0, none⟩) l cap] 28)) #[.int .i64 0, .int .i64 0, .int .i64 0, .slice none 0 0] 28 (by simp : _ = w.heap.size + 1)).below hB1 (by simp); have b1 : Below w.heap.size w w1 := wb.trans (hB1.mono (by simp; omega)); clear hB1 wb))
    | (refine wpList_load_row rfl 28 _ rfl _ rfl 28 _ (0, 0) _ ((Own.new w _ _).alloc _) Try.underlying28 rfl (by kernel_rfl) ?_)
    | (refine wpList_store_own rfl 28 _ _ rfl _ _ rfl rfl 28 _ oR1 (by kernel_rfl) rfl (by simp [Value.oneCell']) ?_; intro w5 oR5 hN5))
  refine bodyPost_ret (v := .tuple #[.agg #[.int .i64 0, .int .i64 0, .int .i64 0, .slice none 0 0], .int .i64 2]) (results_row_tmp rfl _ _ _ _ _ (0, 0) _ rfl oR5 Try.underlying28 rfl (by kernel_rfl) _ rfl) rfl ⟨rfl, b1.trans (hN5.below.mono (by omega))⟩
end Go.Proofs.Ytpmcngmphkegnaa
