/- IsCentralElement: the program. -/
import Derived.Test.YtbibmncepjmgcaaMeq
import Derived.Test.YtbibmncepjmgcaaPwp
import Derived.Test.YtbibmncepjmgcaaKf
namespace Go.Proofs.Ytbibmncepjmgcaa
open Go.RowKit Go.Lib
set_option linter.unusedVariables false
set_option linter.unusedSimpArgs false
/-- One generator with the factor 1. -/
def gnT (n k : Int) : List Tm := [(n, cupL n k, 1)]
/-- Both products with a generator are the same. -/
def cnP (p c n : Int) (xs : List Tm) (k : Nat) : Bool := decide (prN p c n xs (gnT n k) = prN p c n (gnT n k) xs)
def cnB (p c n : Int) (xs : List Tm) : Nat → Bool
  | 0 => true
  | k + 1 => cnB p c n xs k && cnP p c n xs k
theorem cnB_no {p c n : Int} {xs : List Tm} {i : Nat} (h : cnP p c n xs i = false) : ∀ m, i < m → cnB p c n xs m = false
  | m + 1, hm => by
    rw [cnB]
    by_cases e : i = m
    · subst e; rw [h, Bool.and_false]
    · rw [cnB_no h m (by omega), Bool.false_and]
theorem gn_vd {n i : Int} (h1 : 2 ≤ n) (h8 : n ≤ 8) (h0 : 0 ≤ i) (hi : i ≤ n - 2) : VD (n, cupL n i) := by
  have h := cup_ok n i h1 h8 h0 hi
  exact ⟨(isD_iff n _ (cupL_len n i) h.1).2 h.2, cupL_len n i, h.1⟩
theorem gn_ok {p n i : Int} (hp : 2 ≤ p) (h1 : 2 ≤ n) (h8 : n ≤ 8) (h0 : 0 ≤ i) (hi : i ≤ n - 2) : OkE p n (gnT n i) := by
  refine ⟨⟨fun t ht => ?_, fun t ht => ?_, List.pairwise_singleton _ _⟩, fun t ht => ?_, by simp [gnT]⟩
  · obtain rfl : t = _ := by simpa [gnT] using ht
    exact gn_vd h1 h8 h0 hi
  · obtain rfl : t = _ := by simpa [gnT] using ht
    show 1 ≤ (1 : Int) ∧ (1 : Int) < p
    omega
  · obtain rfl : t = _ := by simpa [gnT] using ht
    rfl
set_option maxRecDepth 100000 in
set_option maxHeartbeats 16000000 in
theorem cenI_ok (p c n : Int) (a1 cap : Nat) (ts : List Tm) (hts : ∀ t ∈ ts, t.2.1.length = 16 ∧ Bytes t.2.1) (hx : ts.length ≤ 1048576) (he : elB p c n ts = true) (w : World) (hR : RdT w (some ⟨a1, 0, none⟩) ts) :
    Calls Try.prog 12 #[.agg (ecl p c n (.slice (some ⟨a1, 0, none⟩) ts.length cap))] w fun e w' => e = .returned (.tuple #[.bool (cnB p c n ts (n - 1).toNat), .int .i64 0]) ∧ Below w.heap.size w w' := by
  obtain ⟨hpr0, hc, hn, hl0, hG0, hsz, hp, hp2, hto⟩ := elB_good he hts
  have hi := Lib.hid (fun w hR => elI_any p c n (some ⟨a1, 0, none⟩) cap ts hts hx w hR)
  rw [he] at hi
  have hokE : OkE p n ts := ⟨hG0, hsz, hl0⟩
  obtain ⟨N, hN⟩ : ∃ N : Nat, n - 1 = (N : Int) := ⟨(n - 1).toNat, by omega⟩
  have hres : ∃ r, cnB p c n ts (n - 1).toNat = r := ⟨_, rfl⟩
  obtain ⟨r, hr⟩ := hres
  rw [show (n - 1).toNat = N by omega] at hr
  rw [show (n - 1).toNat = N by omega, hr]
  have hgn := Lib.hid (fun (i : Nat) (hi : i < N) w => show Calls Try.prog 37 #[.int .i64 n, .int .i64 (i : Int)] w fun e w' => e = .returned (.tuple #[.agg (dcells n (cupL n i)), .int .i64 0]) ∧ Below w.heap.size w w' from by
    exact genI_ok n i w (by omega) hn.2 (by omega) (by omega))
  have hlk := Lib.hid (fun (i : Nat) w => likeI_any p c n (some ⟨a1, 0, none⟩) ts.length cap n (cupL n i) (cupL_len n i) w)
  have hgo := Lib.hid (fun (i : Nat) (hi : i < N) => show OkE p n (gnT n i) from gn_ok hp (by omega) hn.2 (by omega) (by omega))
  have hp1 := Lib.hid (fun (i : Nat) (hi : i < N) (g cp : Nat) W h1 h2 => poeI_any p c n p c n n (some ⟨a1, 0, none⟩) (some ⟨g, 0, none⟩) cap cp ts (gnT n i) (hokE.all hp2) ((hgo.out i hi).all hp2) hl0 (hgo.out i hi).2.2 hp hp2 hc.1 hc.2 W h1 h2)
  have hp3 := Lib.hid (fun (i : Nat) (hi : i < N) (g cp : Nat) W h1 h2 => poeI_any p c n p c n n (some ⟨g, 0, none⟩) (some ⟨a1, 0, none⟩) cp cap (gnT n i) ts ((hgo.out i hi).all hp2) (hokE.all hp2) (hgo.out i hi).2.2 hl0 hp hp2 hc.1 hc.2 W h1 h2)
  have hGd := Lib.hid (fun (i : Nat) (hi : i < N) => show (GoodT p (prN p c n ts (gnT n i)) ∧ (prN p c n ts (gnT n i)).length ≤ 100000) ∧ (GoodT p (prN p c n (gnT n i) ts) ∧ (prN p c n (gnT n i) ts).length ≤ 100000) from by
    have g1 := hgo.out i hi
    refine ⟨⟨prN_good (by omega) (fun t ht => ⟨(hokE.all hp2 t ht).1, (hokE.all hp2 t ht).2.1⟩) (fun t h => ⟨(g1.all hp2 t h).1, (g1.all hp2 t h).2.1⟩), ?_⟩, prN_good (by omega) (fun t ht => ⟨(g1.all hp2 t ht).1, (g1.all hp2 t ht).2.1⟩) (fun t h => ⟨(hokE.all hp2 t h).1, (hokE.all hp2 t h).2.1⟩), ?_⟩
    · have := prN_len p c n ts (gnT n i)
      have h2 : (gnT n i).length = 1 := rfl
      rw [h2] at this; omega
    · have := prN_len p c n (gnT n i) ts
      have h2 : (gnT n i).length = 1 := rfl
      rw [h2] at this; omega)
  have hP := Lib.hid (fun (i : Nat) => show decide (prN p c n ts (gnT n i) = prN p c n (gnT n i) ts) = cnP p c n ts i from rfl)
  have hno := Lib.hid (fun (i : Nat) (hi : i < N) (h : cnP p c n ts i = false) => show r = false from by rw [← hr]; exact cnB_no h N hi)
  have hyes := Lib.hid (fun (i : Nat) (h0 : cnB p c n ts i = true) (h : cnP p c n ts i = true) => show cnB p c n ts (i + 1) = true from by rw [cnB, h0, h]; rfl)
  have hend := Lib.hid (fun (h : cnB p c n ts N = true) => show r = true from by rw [← hr]; exact h)
  have hR2 := Lib.hid (fun w' (hb : Below w.heap.size w w') => hR.below hb)
  obtain ⟨B, hB⟩ : ∃ B, cnB p c n ts = B := ⟨_, rfl⟩
  have hB0 : B 0 = true := by rw [← hB]; rfl
  rw [hB] at hyes hend
  obtain ⟨l, hl⟩ : ∃ l, ts.length = l := ⟨_, rfl⟩
  rw [hl] at hi hlk hp1 hp3 ⊢
  have hNw : n - 1 ≤ 7 := by omega
  have hNN := Lib.hid hN
  clear hts hx he hpr0 hc hl0 hG0 hsz hto hR hokE hr hB hl hgo hN
  unfold ecl at *
  go_enter Try.func12, Try.ntmps12
  go_wp2_with (first
    | (go_at_call 36; (have wb := ((Below.refl w.heap.size w).alloc (Nat.le_refl _) (.cells #[.int .i64 p, .int .i64 c, .int .i64 n, .slice (some ⟨a1, 0, none⟩) l cap] 30)); (with_reducible refine (hi.out _ (hR2.out _ wb)).mono ?_); rintro e w1 ⟨rfl, hB1⟩; have oX1 := (Own.new w #[.int .i64 p, .int .i64 c, .int .i64 n, .slice (some ⟨a1, 0, none⟩) l cap] 30).below hB1 (by simp); have b1 : Below w.heap.size w w1 := wb.trans (hB1.mono (by simp)); have x2 : w1.cell? ⟨w.heap.size, 2, none⟩ = some (.int .i64 n) := oX1.cell 2; clear hB1 wb))
    | (refine wpList_load_row rfl 30 _ rfl _ rfl 30 _ (0, 0) _ (Own.new w _ _) Try.underlying30 rfl (by kernel_rfl) ?_))
  go_loopw [14] (fun x wr => ∃ i : Nat, i ≤ N ∧ x = .int .i64 i ∧ B i = true ∧ Own wr w.heap.size #[.int .i64 p, .int .i64 c, .int .i64 n, .slice (some ⟨a1, 0, none⟩) l cap] 30 ∧ Below w.heap.size w wr) (fun x _ => (N - intOf x).toNat)
  case atStart => exact ⟨0, by omega, rfl, hB0, oX1, b1⟩
  case round =>
    clear oX1 b1 x2
    obtain ⟨i, hi0, rfl, hBi, oX, bW⟩ := hrel
    by_cases hlt : i < N
    · have lI : (i : Int) < n - 1 := by have := hNN.out; omega
      have x2 : wr.cell? ⟨w.heap.size, 2, none⟩ = some (.int .i64 n) := oX.cell 2
      have hgn' := Lib.hid (hgn.out i hlt)
      have hlk' := Lib.hid (hlk.out i)
      obtain ⟨⟨g1, z1⟩, g2, z2⟩ := hGd.out i hlt
      have q1 := hp1.out i hlt
      have q2 := hp3.out i hlt
      have hP' := hP.out i
      have hno' := Lib.hid (hno.out i hlt)
      have hyes' := Lib.hid (hyes.out i hBi)
      obtain ⟨U, hU⟩ : ∃ U, cupL n i = U := ⟨_, rfl⟩
      have hUl : U.length = 16 := by rw [← hU]; exact cupL_len n i
      have hGT : gnT n i = [(n, U, 1)] := by rw [← hU]; rfl
      rw [hU] at hgn' hlk'
      rw [hGT] at g1 z1 g2 z2 q1 q2 hP'
      rw [show ([(n, U, (1 : Int))] : List Tm).length = 1 from rfl] at q1 q2
      have h16 : L16 [(n, U, 1)] := fun t ht => by
        obtain rfl : t = (n, U, 1) := by simpa using ht
        exact hUl
      have hUl' := Lib.hid hUl
      obtain ⟨M1, hM1⟩ : ∃ R, prN p c n ts [(n, U, 1)] = R := ⟨_, rfl⟩
      obtain ⟨M2, hM2⟩ : ∃ R, prN p c n [(n, U, 1)] ts = R := ⟨_, rfl⟩
      rw [hM1] at g1 z1 q1 hP'
      rw [hM2] at g2 z2 q2 hP'
      have hq1 := Lib.hid q1
      have hq2 := Lib.hid q2
      have hme := Lib.hid (fun b1 n1 b2 n2 W h1 h2 => meq_any p b1 n1 b2 n2 M1 M2 W g1 g2 hp2 z1 z2 h1 h2)
      rw [hP'] at hme
      obtain ⟨v, hv⟩ : ∃ v, cnP p c n ts i = v := ⟨_, rfl⟩
      rw [hv] at hme hno' hyes'
      clear hM1 hM2 g1 z1 g2 z2 q1 q2 hP' hGT hU hUl hv hgn hlk hGd hp1 hp3 hP hno hyes
      go_upto_region 8 with (first
        | (go_at_call 37; ((with_reducible refine (hgn'.out wr).mono ?_); rintro e w2 ⟨rfl, hB2⟩; have oX2 := oX.below hB2 oX.lt; have b2 := bW.trans (hB2.mono bW.size)))
        | (go_at_call 38; ((with_reducible refine (hlk'.out w3).mono ?_); rintro e w4 ⟨g4, rfl, hg4, hO4, hB4⟩; have oX4 := oX3.below hB4 oX3.lt; have b4 := b3.trans (hB4.mono b3.size)))
        | (refine wpList_load_row rfl 30 _ rfl _ rfl 30 _ (0, 0) _ oX3 Try.underlying30 rfl (by kernel_rfl) ?_)
        | (refine wpList_load_row rfl 53 _ rfl _ rfl 53 _ (0, 0) _ (oD3) Try.underlying53 rfl (row26 (d17 _ _ (hUl'.out))) ?_)
        | (refine wpList_store_own rfl 53 _ _ rfl _ _ rfl rfl 53 _ (Own.new w2 _ _) (row26 (d17 _ _ hUl'.out)) (z_eq (d17 _ _ hUl'.out)) (dcells_one _ _) ?_; intro w3 oD3 hN3; have oX3 := (oX2.alloc _).only hN3 (by have := oX2.lt; omega); have b3 : Below w.heap.size w w3 := (b2.alloc b2.size _).trans (hN3.below.mono b2.size))
        | (refine wpList_store_own rfl 30 _ _ rfl _ _ rfl rfl 30 _ (Own.new w4 _ _) (by kernel_rfl) rfl (by simp [Value.oneCell']) ?_; intro w5 oP5 hN5))
      have l4 := oX4.lt
      have l6 := hO4.lt
      have oX5 := (oX4.alloc _).only hN5 (by omega)
      have r5 : MnT w5 w.heap.size g4 [(n, U, 1)] := MnT.ofOne (by have := b3.size; omega) ((hO4.alloc _).only hN5 (by omega))
      have b5 : Below w.heap.size w w5 := (b4.alloc b4.size _).trans (hN5.below.mono b4.size)
      obtain ⟨e8, he8⟩ : ∃ x, w4.heap.size = x := ⟨_, rfl⟩
      rw [he8] at oP5 l4 l6 ⊢
      have hrd := Lib.hid (fun W (h : MnT W w.heap.size g4 [(n, U, 1)]) => h.rd h16)
      clear x2 hB2 oX2 b2 oX3 b3 hN3 oD3 hB4 oX4 b4 hN5 hO4 he8 h16 oX bW hg4
      refine wp_region_st (fun x => Own x w.heap.size #[.int .i64 p, .int .i64 c, .int .i64 n, .slice (some ⟨a1, 0, none⟩) l cap] 30 ∧ Own x e8 #[.int .i64 p, .int .i64 c, .int .i64 n, .slice (some ⟨g4, 0, none⟩) 1 1] 30) [(true, 0), (true, 1), (true, 3), (true, 4), (false, 2), (false, 5)] 6 (by kernel_rfl) (by kernel_rfl) ⟨oX5.drewN 1, oP5.drewN 1⟩ ?_
      have oXd : Own { w5 with drawn := w5.drawn + 1 } w.heap.size #[.int .i64 p, .int .i64 c, .int .i64 n, .slice (some ⟨a1, 0, none⟩) l cap] 30 := oX5
      have oPd : Own { w5 with drawn := w5.drawn + 1 } e8 #[.int .i64 p, .int .i64 c, .int .i64 n, .slice (some ⟨g4, 0, none⟩) 1 1] 30 := oP5
      have bd : Below w.heap.size w { w5 with drawn := w5.drawn + 1 } := b5.drew
      have rd : MnT { w5 with drawn := w5.drawn + 1 } w.heap.size g4 [(n, U, 1)] := r5
      clear oX5 oP5 b5 r5
      generalize ({ w5 with drawn := w5.drawn + 1 } : World) = w3 at *
      simp only [List.map_cons, List.map_nil, opS'_mk, opN_zero, opN_succ, List.drop_succ_cons, List.drop_zero]
      (apply wpSt_read; · (intro wd hS K hK; rw [if_pos (by rfl)]; refine still_load_row 30 (.tmp 1) rfl w.heap.size rfl 30 #[.int .i64 p, .int .i64 c, .int .i64 n, .slice (some ⟨a1, 0, none⟩) l cap] _ hS.1 Try.underlying30 rfl (by kernel_rfl) ?_; exact hK))
      (apply wpSt_read; · (intro wd hS K hK; rw [if_pos (by rfl)]; refine still_load_row 30 (.tmp 7) rfl e8 rfl 30 #[.int .i64 p, .int .i64 c, .int .i64 n, .slice (some ⟨g4, 0, none⟩) 1 1] _ hS.2 Try.underlying30 rfl (by kernel_rfl) ?_; exact hK))
      (apply wpSt_read; · (intro wd hS K hK; rw [if_pos (by rfl)]; refine still_load_row 30 (.tmp 7) rfl e8 rfl 30 #[.int .i64 p, .int .i64 c, .int .i64 n, .slice (some ⟨g4, 0, none⟩) 1 1] _ hS.2 Try.underlying30 rfl (by kernel_rfl) ?_; exact hK))
      (apply wpSt_read; · (intro wd hS K hK; rw [if_pos (by rfl)]; refine still_load_row 30 (.tmp 1) rfl w.heap.size rfl 30 #[.int .i64 p, .int .i64 c, .int .i64 n, .slice (some ⟨a1, 0, none⟩) l cap] _ hS.1 Try.underlying30 rfl (by kernel_rfl) ?_; exact hK))
      refine wpSt_keep (fun K hK => ?_)
      go_wp2_with (first
        | (go_at_call 40; ((with_reducible refine (hq1.out g4 1 w3 (hR2.out _ bd) (hrd.out _ rd)).mono ?_); rintro e w4 ⟨⟨u1, n1, rfl, hn1, hb1, hM4⟩, hB4⟩)))
      have oX4 := oXd.below hB4 oXd.lt
      have oP4 := oPd.below hB4 oPd.lt
      have b4 := bd.trans (hB4.mono bd.size)
      have r4 := rd.below hB4 rd.lt
      refine hK _ _ ⟨oX4, oP4⟩ rfl ?_
      clear hK K oXd oPd hB4 rd bd
      refine wpSt_keep (fun K hK => ?_)
      go_wp2_with (first
        | (go_at_call 40; ((with_reducible refine (hq2.out g4 1 w4 (hrd.out _ r4) (hR2.out _ b4)).mono ?_); rintro e w5 ⟨⟨u2, n2, rfl, hn2, hb2, hN5⟩, hB5⟩)))
      have oX5 := oX4.below hB5 oX4.lt
      have oP5 := oP4.below hB5 oP4.lt
      have b5 := b4.trans (hB5.mono b4.size)
      have hM5 := hM4.below hB5 hM4.lt
      refine hK _ _ ⟨oX5, oP5⟩ rfl ?_
      clear hK K oX4 oP4 hB5 r4 b4 hM4
      refine wpSt_nil ?_
      cases v with
      | true =>
        have hy := hyes'.out rfl
        go_wp2_with (first
          | (go_at_call 39; ((with_reducible refine (hme.out u1 n1 u2 n2 w5 hM5 hN5).mono ?_); rintro e w6 ⟨rfl, hB6⟩; have oX6 := oX5.below hB6 oX5.lt; have b6 := b5.trans (hB6.mono b5.size)))
          | fail)
        go_roundw
        case rel => exact ⟨i + 1, by omega, by go_num, hy, oX6, b6⟩
        case measure => simp [intOf]; omega
      | false =>
        have hn := hno'.out rfl
        subst hn
        go_wp2_with (first
          | (go_at_call 39; ((with_reducible refine (hme.out u1 n1 u2 n2 w5 hM5 hN5).mono ?_); rintro e w6 ⟨rfl, hB6⟩; have b6 := b5.trans (hB6.mono b5.size)))
          | fail)
        go_ret2
        exact ⟨rfl, b6⟩
    · obtain rfl : i = N := by omega
      have lI : ¬ (i : Int) < n - 1 := by have := hNN.out; omega
      have hr := hend.out hBi
      subst hr
      go_wp2
      go_ret2
      exact ⟨rfl, bW⟩
end Go.Proofs.Ytbibmncepjmgcaa
