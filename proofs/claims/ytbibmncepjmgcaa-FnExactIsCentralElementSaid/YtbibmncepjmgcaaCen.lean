/- IsCentralElement: the model. -/
import Derived.Test.YtbibmncepjmgcaaCeq
import Derived.Test.YtbibmncepjmgcaaEqt
import Derived.Test.YtbibmncepjmgcaaPos
import Derived.Test.YtbibmncepjmgcaaScl
import Derived.Test.YtbibmncepjmgcaaElA
namespace Go.Proofs.Ytbibmncepjmgcaa
open Go.RowKit Go.Lib
set_option linter.unusedVariables false
set_option linter.unusedSimpArgs false
set_option maxRecDepth 100000 in
set_option maxHeartbeats 16000000 in
theorem cenS_ok (p c n : Int) (a1 cap : Nat) (ts : List Tm) (hts : ∀ t ∈ ts, t.2.1.length = 16 ∧ Bytes t.2.1) (hx : ts.length ≤ 1048576) (he : elB p c n ts = true) (w : World) (hR : RdT w (some ⟨a1, 0, none⟩) ts) :
    Calls Try.prog 10 #[.agg (ecl p c n (.slice (some ⟨a1, 0, none⟩) ts.length cap))] w fun e w' => e = .returned (.tuple #[.bool (cnB p c n ts (n - 1).toNat), .int .i64 0]) ∧ Below w.heap.size w w' := by
  obtain ⟨hpr0, hc, hn, hl0, hG0, hsz, hp, hp2, hto⟩ := elB_good he hts
  have hi := Lib.hid (fun w hR => elS_any p c n (some ⟨a1, 0, none⟩) cap ts hts hx (by omega) w hR)
  rw [he] at hi
  have hokE : OkE p n ts := ⟨hG0, hsz, hl0⟩
  obtain ⟨N, hN⟩ : ∃ N : Nat, n - 1 = (N : Int) := ⟨(n - 1).toNat, by omega⟩
  have hres : ∃ r, cnB p c n ts (n - 1).toNat = r := ⟨_, rfl⟩
  obtain ⟨r, hr⟩ := hres
  rw [show (n - 1).toNat = N by omega] at hr
  rw [show (n - 1).toNat = N by omega, hr]
  have hcu := Lib.hid (fun (i : Nat) (hi : i < N) w => cupS_any n i w (by omega) hn.2 (by omega) (by omega))
  have hem := Lib.hid (fun w => emptyS_any p c n (some ⟨a1, 0, none⟩) ts.length cap w)
  have hgo := Lib.hid (fun (i : Nat) (hi : i < N) => show OkE p n (gnT n i) from gn_ok hp (by omega) hn.2 (by omega) (by omega))
  have hp1 := Lib.hid (fun (i : Nat) (hi : i < N) (g cp : Nat) W h1 h2 => timS_any p c n p c n n a1 g cap cp ts (gnT n i) (hokE.all hp2) ((hgo.out i hi).all hp2) hl0 (hgo.out i hi).2.2 hp hp2 hc.1 hc.2 W h1 h2)
  have hp3 := Lib.hid (fun (i : Nat) (hi : i < N) (g cp : Nat) W h1 h2 => timS_any p c n p c n n g a1 cp cap (gnT n i) ts ((hgo.out i hi).all hp2) (hokE.all hp2) (hgo.out i hi).2.2 hl0 hp hp2 hc.1 hc.2 W h1 h2)
  have hGd := Lib.hid (fun (i : Nat) (hi : i < N) => show (GoodT p (prN p c n ts (gnT n i)) ∧ (prN p c n ts (gnT n i)).length ≤ 1048576) ∧ (GoodT p (prN p c n (gnT n i) ts) ∧ (prN p c n (gnT n i) ts).length ≤ 1048576) from by
    have g1 := hgo.out i hi
    refine ⟨⟨prN_good (by omega) (fun t ht => ⟨(hokE.all hp2 t ht).1, (hokE.all hp2 t ht).2.1⟩) (fun t h => ⟨(g1.all hp2 t h).1, (g1.all hp2 t h).2.1⟩), ?_⟩, prN_good (by omega) (fun t ht => ⟨(g1.all hp2 t ht).1, (g1.all hp2 t ht).2.1⟩) (fun t h => ⟨(hokE.all hp2 t h).1, (hokE.all hp2 t h).2.1⟩), ?_⟩
    · have := prN_len p c n ts (gnT n i)
      have h2 : (gnT n i).length = 1 := rfl
      rw [h2] at this; omega
    · have := prN_len p c n (gnT n i) ts
      have h2 : (gnT n i).length = 1 := rfl
      rw [h2] at this; omega)
  have hP := Lib.hid (fun (i : Nat) => show decide (prN p c n ts (gnT n i) = prN p c n (gnT n i) ts) = cnP p c n ts i from rfl)
  have hno := Lib.hid (fun (i : Nat) (hi : i < N) (h : cnP p c n ts i = false) => show r = false from by rw [← hr]; exact cnB_no h N hi)
  have hyes := Lib.hid (fun (i : Nat) (h0 : cnB p c n ts i = true) (h : cnP p c n ts i = true) => show cnB p c n ts (i + 1) = true from by rw [cnB, h0, h]; rfl)
  have hend := Lib.hid (fun (h : cnB p c n ts N = true) => show r = true from by rw [← hr]; exact h)
  have hR2 := Lib.hid (fun w' (hb : Below w.heap.size w w') => hR.below hb)
  obtain ⟨B, hB⟩ : ∃ B, cnB p c n ts = B := ⟨_, rfl⟩
  have hB0 : B 0 = true := by rw [← hB]; rfl
  rw [hB] at hyes hend
  obtain ⟨l, hl⟩ : ∃ l, ts.length = l := ⟨_, rfl⟩
  rw [hl] at hi hem hp1 hp3 ⊢
  have hNw : n - 1 ≤ 7 := by omega
  have hNN := Lib.hid hN
  clear hts hx he hpr0 hc hl0 hG0 hsz hto hR hokE hr hB hl hgo hN
  unfold ecl at *
  go_enter Try.func10, Try.ntmps10
  go_wp2_with (first
    | (go_at_call 30; (have wb := ((Below.refl w.heap.size w).alloc (Nat.le_refl _) (.cells #[.int .i64 p, .int .i64 c, .int .i64 n, .slice (some ⟨a1, 0, none⟩) l cap] 30)); (with_reducible refine (hi.out _ (hR2.out _ wb)).mono ?_); rintro e w1 ⟨rfl, hB1⟩; have oX1 := (Own.new w #[.int .i64 p, .int .i64 c, .int .i64 n, .slice (some ⟨a1, 0, none⟩) l cap] 30).below hB1 (by simp); have b1 : Below w.heap.size w w1 := wb.trans (hB1.mono (by simp)); clear hB1 wb))
    | (refine wpList_load_row rfl 30 _ rfl _ rfl 30 _ (0, 0) _ (Own.new w _ _) Try.underlying30 rfl (by kernel_rfl) ?_))
  go_loopw [4] (fun x wr => ∃ i : Nat, i ≤ N ∧ x = .int .i64 i ∧ B i = true ∧ Own wr w.heap.size #[.int .i64 p, .int .i64 c, .int .i64 n, .slice (some ⟨a1, 0, none⟩) l cap] 30 ∧ Below w.heap.size w wr) (fun x _ => (N - intOf x).toNat)
  case atStart => exact ⟨0, by omega, rfl, hB0, oX1, b1⟩
  case round =>
    clear oX1 b1
    obtain ⟨i, hi0, rfl, hBi, oX, bW⟩ := hrel
    have x2 : wr.cell? ⟨w.heap.size, 2, none⟩ = some (.int .i64 n) := oX.cell 2
    by_cases hlt : i < N
    · have lI : (i : Int) < n - 1 := by have := hNN.out; omega
      have hcu' := Lib.hid (hcu.out i hlt)
      obtain ⟨⟨g1, z1⟩, g2, z2⟩ := hGd.out i hlt
      have q1 := hp1.out i hlt
      have q2 := hp3.out i hlt
      have hP' := hP.out i
      have hno' := Lib.hid (hno.out i hlt)
      have hyes' := Lib.hid (hyes.out i hBi)
      obtain ⟨U, hU⟩ : ∃ U, cupL n i = U := ⟨_, rfl⟩
      have hUl : U.length = 16 := by rw [← hU]; exact cupL_len n i
      have hGT : gnT n i = [(n, U, 1)] := by rw [← hU]; rfl
      rw [hU] at hcu'
      rw [hGT] at g1 z1 g2 z2 q1 q2 hP'
      rw [show ([(n, U, (1 : Int))] : List Tm).length = 1 from rfl] at q1 q2
      have h16 : L16 [(n, U, 1)] := fun t ht => by
        obtain rfl : t = (n, U, 1) := by simpa using ht
        exact hUl
      have H16 := Lib.hid h16
      have hUl' := Lib.hid hUl
      have hb := Lib.hid (builtT n U hUl 1)
      have hm1 := Lib.hid (mkT1 n U hUl 1)
      obtain ⟨M1, hM1⟩ : ∃ R, prN p c n ts [(n, U, 1)] = R := ⟨_, rfl⟩
      obtain ⟨M2, hM2⟩ : ∃ R, prN p c n [(n, U, 1)] ts = R := ⟨_, rfl⟩
      rw [hM1] at g1 z1 q1 hP'
      rw [hM2] at g2 z2 q2 hP'
      have hq1 := Lib.hid q1
      have hq2 := Lib.hid q2
      have hme := Lib.hid (fun a b cp cp' W h1 h2 => sameS_any p c n p c n a b cp cp' M1 M2 (good16 g1) (good16 g2) z1 z2 W h1 h2)
      rw [hP'] at hme
      unfold ecl at hme
      have hr1 := Lib.hid (fun W g (h : MnT W w.heap.size g M1) => h.rd (good16 g1))
      have hr2 := Lib.hid (fun W g (h : MnT W w.heap.size g M2) => h.rd (good16 g2))
      obtain ⟨v, hv⟩ : ∃ v, cnP p c n ts i = v := ⟨_, rfl⟩
      rw [hv] at hme hno' hyes'
      obtain ⟨l1, hl1⟩ : ∃ l, M1.length = l := ⟨_, rfl⟩
      obtain ⟨l2, hl2⟩ : ∃ l, M2.length = l := ⟨_, rfl⟩
      rw [hl1] at hq1 hme
      rw [hl2] at hq2 hme
      have hrd := Lib.hid (fun W g (h : MnT W w.heap.size g [(n, U, 1)]) => h.rd h16)
      clear hM1 hM2 g1 z1 g2 z2 q1 q2 hP' hGT hU hUl hv hcu hGd hp1 hp3 hP hno hyes h16 hl1 hl2
      go_upto_region 7 with (first
        | (refine wpList_load_row rfl 30 _ rfl _ rfl 30 _ (0, 0) _ oX Try.underlying30 rfl (by kernel_rfl) ?_)
        | (go_at_call 31; ((with_reducible refine (hem.out wr).mono ?_); rintro e w1 ⟨g, rfl, hg, hT1, hB1⟩))
        | (refine wpList_store_own rfl 30 _ _ rfl _ _ rfl rfl 30 _ (Own.new w1 _ _) (by kernel_rfl) rfl (by simp [Value.oneCell']) ?_; intro w2 hO2 hN2))
      have hX1 := oX.below hB1 oX.lt
      have hX2 := (hX1.alloc (.cells #[.int .i64 0, .int .i64 0, .int .i64 0, .slice none 0 0] 30)).only hN2 (by have := hX1.lt; omega)
      have hT2 := (hT1.alloc (.cells #[.int .i64 0, .int .i64 0, .int .i64 0, .slice none 0 0] 30)).only hN2 (by have := hT1.lt; omega)
      have bA := bW.trans (hB1.mono bW.size)
      have bB := (bA.alloc bA.size (.cells #[.int .i64 0, .int .i64 0, .int .i64 0, .slice none 0 0] 30)).trans (hN2.below.mono bA.size)
      have hgw : w.heap.size < g := Nat.lt_of_lt_of_le oX.lt hg
      have hX1l := hX1.lt
      obtain ⟨b3, hb3⟩ : ∃ b, w1.heap.size = b := ⟨_, rfl⟩
      rw [hb3] at hO2 hN2 hX1l
      have hgb : g < b3 := by have := hT1.lt; omega
      have bA3 : w.heap.size ≤ b3 := by have := bA.size; omega
      rw [hb3]
      clear hX1 hT1 hB1 bA hN2 hb3 oX bW x2 hg
      refine wp_region_st (fun x => Own x b3 #[.int .i64 p, .int .i64 c, .int .i64 n, .slice (some ⟨g, 0, none⟩) 0 0] 30 ∧ Own x w.heap.size #[.int .i64 p, .int .i64 c, .int .i64 n, .slice (some ⟨a1, 0, none⟩) l cap] 30 ∧ Below w.heap.size w x) [(true, 0), (true, 1), (true, 2), (true, 3), (true, 4), (false, 5), (false, 6), (false, 7), (false, 8)] 9 (by kernel_rfl) (by kernel_rfl) ⟨hO2.drewN 1, hX2.drewN 1, bB.drew⟩ ?_
      simp only [List.map_cons, List.map_nil, opS'_mk, opN_zero, opN_succ, List.drop_succ_cons, List.drop_zero]
      have hO8 := hO2.drewN 1
      have hX8 := hX2.drewN 1
      have hT8 := hT2.drewN 1
      have hB8 := bB.drew
      change Own { w2 with drawn := w2.drawn + 1 } _ _ _ at hO8 hX8 hT8
      change Below _ _ { w2 with drawn := w2.drawn + 1 } at hB8
      clear hO2 hX2 hT2 bB
      generalize ({ w2 with drawn := w2.drawn + 1 } : World) = w8 at *
      iterate 5 (apply wpSt_read; · (intro wd hS K hK; have k0 := hS.1.cell 3; have k1 := hS.2.1.cell 2; clear hS; go_simp; exact hK))
      refine wpSt_keep (fun K hK => ?_)
      go_wp2_with (first
        | (go_at_call 32; ((with_reducible refine (hcu'.out w8).mono ?_); rintro e w9 ⟨rfl, hB9⟩)))
      have hO9 := hO8.below hB9 hO8.lt
      have hX9 := hX8.below hB9 hX8.lt
      have hT9 := hT8.below hB9 hT8.lt
      have hBx := hB8.trans (hB9.mono hB8.size)
      clear hO8 hX8 hT8 hB8 hB9
      refine hK _ _ ⟨hO9, hX9, hBx⟩ rfl ?_
      clear hK K
      refine wpSt_keep (fun K hK => ?_)
      go_wp2_with (first
        | (refine wpList_build_of rfl 56 #[(0, .tmp 23), (1, .const (.int .i64 1))] rfl (tcl (n, U, 1)).toArray ?_ ?_; (exact hb.out)))
      refine hK _ _ ⟨hO9, hX9, hBx⟩ rfl ?_
      clear hK K
      refine wpSt_keep (fun K hK => ?_)
      go_wp2_with (first
        | (refine wpList_mkslice rfl 28 (.tmp 24) rfl (.agg (tcl (n, U, 1)).toArray) _ rfl (hm1.out _) ?_))
      have hs9 := hBx.size
      have hOa := hO9.alloc (.cells (tcl (n, U, 1)).toArray 56)
      have hXa := hX9.alloc (.cells (tcl (n, U, 1)).toArray 56)
      have hTa := hT9.alloc (.cells (tcl (n, U, 1)).toArray 56)
      have hBa := hBx.alloc hs9 (.cells (tcl (n, U, 1)).toArray 56)
      have hflat := one_flat w9 (n, U, 1)
      obtain ⟨wa, hwa⟩ : ∃ x, w9.alloc (.cells (tcl (n, U, 1)).toArray 56) = x := ⟨_, rfl⟩
      rw [hwa] at hOa hXa hTa hBa hflat ⊢
      clear hO9 hX9 hT9 hBx
      refine hK _ _ ⟨hOa, hXa, hBa⟩ rfl ?_
      clear hK K
      have hrow : RowT wa w.heap.size (.slice (some ⟨g, 0, none⟩) 0 0) [] := ⟨rfl, .inr ⟨g, 0, #[], rfl, by omega, hTa, Nat.le_refl _, by unfold maxLen; omega, rfl, rfl⟩⟩
      refine wpSt_keep (fun K hK => ?_)
      go_wp2_with (first
        | (refine wpList_append_terms rfl (.tmp 19) (.tmp 25) rfl w.heap.size (.slice (some ⟨g, 0, none⟩) 0 0) [] [(n, U, 1)] H16.out rfl hrow (by simp) ⟨w9.heap.size, 0, none⟩ 1 rfl hflat (by simp) hBa.size ?_; intro v' wb hv hnv hG))
      have hG' : wa.grownBy wb (some g) := hG
      have hOb := hOa.grown hG' (by omega)
      have hXb := hXa.grown hG' (by omega)
      have hBb := hBa.grown hG' hBa.size (fun k e => by injection e with e; omega)
      obtain ⟨g', cap', rfl, hcap, hM⟩ := hv.mn hnv
      have hgb3 : g' ≠ b3 := fun e => by
        obtain ⟨_, sp, ho⟩ := hM
        rw [e] at ho
        exact (Own.neTz ho hOb (by decide)) rfl
      clear hOa hXa hTa hBa hG hG' hrow hflat hv hnv
      refine hK _ _ ⟨hOb, hXb, hBb⟩ rfl ?_
      clear hK K
      refine wpSt_nil ?_
      have c3 := hOb.cell 3
      have f3 := hOb.free 3
      go_wp2
      have hOc : Own (wb.setCell ⟨b3, 3, none⟩ (.slice (some ⟨g', 0, none⟩) 1 cap')) b3 #[.int .i64 p, .int .i64 c, .int .i64 n, .slice (some ⟨g', 0, none⟩) 1 cap'] 30 := hOb.set 3 _
      have hXc := hXb.other (a := ⟨b3, 3, none⟩) (by show b3 ≠ w.heap.size; omega) (.slice (some ⟨g', 0, none⟩) 1 cap')
      have hMc : MnT (wb.setCell ⟨b3, 3, none⟩ (.slice (some ⟨g', 0, none⟩) 1 cap')) w.heap.size g' [(n, U, 1)] := by
        obtain ⟨h0, sp, ho⟩ := hM
        exact ⟨h0, sp, ho.other (a := ⟨b3, 3, none⟩) (by show b3 ≠ g'; exact fun e => hgb3 e.symm) _⟩
      have hBc := hBb.setCell (p := ⟨b3, 3, none⟩) bA3 (.slice (some ⟨g', 0, none⟩) 1 cap')
      clear hOb hXb hM hBb c3 f3 hgb3
      generalize wb.setCell ⟨b3, 3, none⟩ (.slice (some ⟨g', 0, none⟩) 1 cap') = w5 at *
      refine wp_region_st (fun x => Own x w.heap.size #[.int .i64 p, .int .i64 c, .int .i64 n, .slice (some ⟨a1, 0, none⟩) l cap] 30 ∧ Own x b3 #[.int .i64 p, .int .i64 c, .int .i64 n, .slice (some ⟨g', 0, none⟩) 1 cap'] 30) [(true, 0), (true, 1), (true, 3), (true, 4), (false, 2), (false, 5)] 6 (by kernel_rfl) (by kernel_rfl) ⟨hXc.drewN 1, hOc.drewN 1⟩ ?_
      have oXd : Own { w5 with drawn := w5.drawn + 1 } w.heap.size #[.int .i64 p, .int .i64 c, .int .i64 n, .slice (some ⟨a1, 0, none⟩) l cap] 30 := hXc
      have oPd : Own { w5 with drawn := w5.drawn + 1 } b3 #[.int .i64 p, .int .i64 c, .int .i64 n, .slice (some ⟨g', 0, none⟩) 1 cap'] 30 := hOc
      have bd : Below w.heap.size w { w5 with drawn := w5.drawn + 1 } := hBc.drew
      have rd : MnT { w5 with drawn := w5.drawn + 1 } w.heap.size g' [(n, U, 1)] := hMc
      clear hXc hOc hBc hMc
      generalize ({ w5 with drawn := w5.drawn + 1 } : World) = w3 at *
      simp only [List.map_cons, List.map_nil, opS'_mk, opN_zero, opN_succ, List.drop_succ_cons, List.drop_zero]
      (apply wpSt_read; · (intro wd hS K hK; rw [if_pos (by rfl)]; refine still_load_row 30 (.tmp 1) rfl w.heap.size rfl 30 #[.int .i64 p, .int .i64 c, .int .i64 n, .slice (some ⟨a1, 0, none⟩) l cap] _ hS.1 Try.underlying30 rfl (by kernel_rfl) ?_; exact hK))
      (apply wpSt_read; · (intro wd hS K hK; rw [if_pos (by rfl)]; refine still_load_row 30 (.tmp 5) rfl b3 rfl 30 #[.int .i64 p, .int .i64 c, .int .i64 n, .slice (some ⟨g', 0, none⟩) 1 cap'] _ hS.2 Try.underlying30 rfl (by kernel_rfl) ?_; exact hK))
      (apply wpSt_read; · (intro wd hS K hK; rw [if_pos (by rfl)]; refine still_load_row 30 (.tmp 5) rfl b3 rfl 30 #[.int .i64 p, .int .i64 c, .int .i64 n, .slice (some ⟨g', 0, none⟩) 1 cap'] _ hS.2 Try.underlying30 rfl (by kernel_rfl) ?_; exact hK))
      (apply wpSt_read; · (intro wd hS K hK; rw [if_pos (by rfl)]; refine still_load_row 30 (.tmp 1) rfl w.heap.size rfl 30 #[.int .i64 p, .int .i64 c, .int .i64 n, .slice (some ⟨a1, 0, none⟩) l cap] _ hS.1 Try.underlying30 rfl (by kernel_rfl) ?_; exact hK))
      refine wpSt_keep (fun K hK => ?_)
      go_wp2_with (first
        | (go_at_call 34; ((with_reducible refine (hq1.out g' cap' w3 (hR2.out _ bd) (hrd.out _ _ rd)).mono ?_); rintro e w4 ⟨⟨g6, cp6, rfl, hc6, hM6⟩, hB4⟩)))
      have oX4 := oXd.below hB4 oXd.lt
      have oP4 := oPd.below hB4 oPd.lt
      have b4 := bd.trans (hB4.mono bd.size)
      have r4 := rd.below hB4 rd.lt
      have hM6' := hM6.weak bd.size
      refine hK _ _ ⟨oX4, oP4⟩ rfl ?_
      clear hK K oXd oPd hB4 rd bd hM6
      refine wpSt_keep (fun K hK => ?_)
      go_wp2_with (first
        | (go_at_call 34; ((with_reducible refine (hq2.out g' cap' w4 (hrd.out _ _ r4) (hR2.out _ b4)).mono ?_); rintro e w5 ⟨⟨g7, cp7, rfl, hc7, hM7⟩, hB5⟩)))
      have oX5 := oX4.below hB5 oX4.lt
      have oP5 := oP4.below hB5 oP4.lt
      have b5 := b4.trans (hB5.mono b4.size)
      have hM65 := hM6'.below hB5 hM6'.lt
      have hM75 := hM7.weak b4.size
      refine hK _ _ ⟨oX5, oP5⟩ rfl ?_
      clear hK K oX4 oP4 hB5 r4 b4 hM6' hM7
      refine wpSt_nil ?_
      cases v with
      | true =>
        have hy := hyes'.out rfl
        go_wp2_with (first
          | (go_at_call 33; ((with_reducible refine (hme.out _ _ cp6 cp7 w5 (hr1.out _ _ hM65) (hr2.out _ _ hM75)).mono ?_); rintro e w6 ⟨rfl, hB6⟩; have oX6 := oX5.below hB6 oX5.lt; have b6 := b5.trans (hB6.mono b5.size)))
          | fail)
        go_roundw
        case rel => exact ⟨i + 1, by omega, by go_num, hy, oX6, b6⟩
        case measure => simp [intOf]; omega
      | false =>
        have hn := hno'.out rfl
        subst hn
        go_wp2_with (first
          | (go_at_call 33; ((with_reducible refine (hme.out _ _ cp6 cp7 w5 (hr1.out _ _ hM65) (hr2.out _ _ hM75)).mono ?_); rintro e w6 ⟨rfl, hB6⟩; have b6 := b5.trans (hB6.mono b5.size)))
          | fail)
        go_ret2
        exact ⟨rfl, b6⟩
    · obtain rfl : i = N := by omega
      have lI : ¬ (i : Int) < n - 1 := by have := hNN.out; omega
      have hr := hend.out hBi
      subst hr
      go_wp2
      go_ret2
      exact ⟨rfl, bW⟩
end Go.Proofs.Ytbibmncepjmgcaa
