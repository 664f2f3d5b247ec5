/- The element of a braid word: the program. (Written by genbrf.py.) -/
import Derived.Test.YtbibmncepjmgcaaBre
import Derived.Test.YtbibmncepjmgcaaBrd
namespace Go.Proofs.Ytbibmncepjmgcaa
open Go.RowKit Go.Lib
set_option linter.unusedVariables false
set_option linter.unusedSimpArgs false
set_option maxRecDepth 100000 in
set_option maxHeartbeats 16000000 in
theorem beoI_any (a b p c n : Int) (hp : 2 ≤ p) (hp2 : p ≤ 97) (hc0 : 0 ≤ c) (hc1 : c < p) (h2 : 2 ≤ n) (h6 : n ≤ 6) (ha : 0 ≤ a ∧ a ≤ 100) (hb : 0 ≤ b ∧ b ≤ 100) (q0 : Option Addr) (cap : Nat) (xs : List Int) (hxl : xs.length ≤ 24) (hxs : ∀ x ∈ xs, x ≠ 0 ∧ -n < x ∧ x < n) (w : World) (hR : Rd w q0 xs) :
    Calls Try.prog 47 #[.agg (skv a b p c n), .slice q0 xs.length cap] w fun e w' => (∃ q cp, e = .returned (.agg (ecl p c n (.slice q (brN p c n a b xs).length cp))) ∧ Res w' w.heap.size q (brN p c n a b xs)) ∧ Below w.heap.size w w' := by
  have h8 : n ≤ 8 := by omega
  obtain ⟨F, hF⟩ : ∃ F : Nat → List Tm, (fun k => brN p c n a b (xs.take k)) = F := ⟨_, rfl⟩
  have hF' : ∀ k, brN p c n a b (xs.take k) = F k := fun k => congrFun hF k
  have hFo0 : ∀ k, k ≤ xs.length → OkE p n (F k) := fun k hk => by rw [← hF']; exact brN_ok hp hp2 h2 h6 xs hxs k hk
  have hFo := Lib.hid hFo0
  have hF0 := Lib.hid (show F 0 = [(n, oneL n n.toNat, 1)] by rw [← hF']; rfl)
  have hFs := Lib.hid (fun k (hk : k < xs.length) => show F (k + 1) = prN p c n (F k) (ltN p n a b (xs.getD k 0)) from by rw [← hF', ← hF', brN_take _ _ _ _ _ _ _ hk])
  have hxg := Lib.hid (fun k (hk : k < xs.length) => show xs.getD k 0 ≠ 0 ∧ -n < xs.getD k 0 ∧ xs.getD k 0 < n from hxs _ (by rw [List.getD_eq_getElem?_getD, List.getElem?_eq_getElem hk]; exact List.getElem_mem _))
  have hFe := Lib.hid (show F xs.length = brN p c n a b xs by rw [← hF', List.take_length])
  obtain ⟨R, hRR⟩ : ∃ R, brN p c n a b xs = R := ⟨_, rfl⟩
  rw [hRR] at hFe ⊢
  have hun := Lib.hid (fun w => unitI_ok n w (by omega) h8)
  have hol := Lib.hid (oneL_len n n.toNat)
  have hlk := Lib.hid (fun w => likeI_any p c n none 0 0 n (oneL n n.toNat) (oneL_len n n.toNat) w)
  have hpo := Lib.hid (fun (q q2 : Option Addr) (cp cp2 : Nat) (L M : List Tm) (hL : OkE p n L) (hM : OkE p n M) W h1 h2 => poeI_any p c n p c n n q q2 cp cp2 L M (hL.all hp2) (hM.all hp2) hL.2.2 hM.2.2 hp hp2 hc0 hc1 W h1 h2)
  have hel := Lib.hid (fun u nn (L : List Tm) W h (hL : OkE p n L) => elemI_any a b p c n u nn L W h hL.1 hp2 hL.2.2)
  have hcr := Lib.hid (fun i w (h0 : 0 ≤ i) (hi : i ≤ n - 2) => croI_any a b p c n i hp hp2 h2 h8 h0 hi ha hb w)
  have hiv := Lib.hid (fun i w (h0 : 0 ≤ i) (hi : i ≤ n - 2) => invI_any a b p c n i hp hp2 h2 h8 h0 hi ha hb w)
  have hlo := Lib.hid (fun x (hx : x ≠ 0 ∧ -n < x ∧ x < n) => show OkE p n (ltN p n a b x) from ltN_ok hp h2 h8 hx)
  have hRx := Lib.hid (fun w' (hb : Below w.heap.size w w') => hR.below hb)
  obtain ⟨U, hU⟩ : ∃ U, oneL n n.toNat = U := ⟨_, rfl⟩
  rw [hU] at hun hol hlk hF0
  obtain ⟨m, hm⟩ : ∃ m, xs.length = m := ⟨_, rfl⟩
  have hmm := Lib.hid hm
  rw [hm] at hFe hxl
  rw [hm]
  have hmf : ∀ (fn : Fn) (first cap : Array Value) (w : World), (Instr.makeFunc fn first cap).run Try.prog w = .ok (.func fn first cap) w := fun _ _ _ _ => rfl
  clear hxs hR hF hF' hFo0 hRR hU hm hc0 hc1
  unfold skv at *
  unfold ecl at *
  go_enter Try.func47, Try.ntmps47
  go_upto_region 4 with (first
    | (refine wpList_load_row rfl 71 _ rfl _ rfl 71 _ (0, 0) _ ((Own.new w _ _).alloc _) Try.underlying71 rfl (by kernel_rfl) ?_)
    | (go_at_call 92; ((with_reducible refine (hun.out _).mono ?_); rintro e w2 ⟨rfl, hB2⟩; have oS2 := (((Own.new w #[.int .i64 a, .int .i64 b, .int .i64 p, .int .i64 c, .int .i64 n, .slice none 0 0] 71).alloc (.cells #[.int .i64 0, .int .i64 0, .int .i64 0, .slice none 0 0] 30)).alloc (.cells #[.func (.func 90) #[.agg #[.int .i64 a, .int .i64 b, .int .i64 p, .int .i64 c, .int .i64 n, .slice none 0 0]] #[], .func (.func 91) #[.agg #[.int .i64 a, .int .i64 b, .int .i64 p, .int .i64 c, .int .i64 n, .slice none 0 0]] #[]] 106)).below hB2 (by simp; omega); have oR2 := ((Own.at (w.alloc (.cells #[.int .i64 a, .int .i64 b, .int .i64 p, .int .i64 c, .int .i64 n, .slice none 0 0] 71)) #[.int .i64 0, .int .i64 0, .int .i64 0, .slice none 0 0] 30 (by simp : _ = w.heap.size + 1)).alloc (.cells #[.func (.func 90) #[.agg #[.int .i64 a, .int .i64 b, .int .i64 p, .int .i64 c, .int .i64 n, .slice none 0 0]] #[], .func (.func 91) #[.agg #[.int .i64 a, .int .i64 b, .int .i64 p, .int .i64 c, .int .i64 n, .slice none 0 0]] #[]] 106)).below hB2 (by simp); have oF2 := (Own.at ((w.alloc (.cells #[.int .i64 a, .int .i64 b, .int .i64 p, .int .i64 c, .int .i64 n, .slice none 0 0] 71)).alloc (.cells #[.int .i64 0, .int .i64 0, .int .i64 0, .slice none 0 0] 30)) #[.func (.func 90) #[.agg #[.int .i64 a, .int .i64 b, .int .i64 p, .int .i64 c, .int .i64 n, .slice none 0 0]] #[], .func (.func 91) #[.agg #[.int .i64 a, .int .i64 b, .int .i64 p, .int .i64 c, .int .i64 n, .slice none 0 0]] #[]] 106 (by simp : _ = w.heap.size + 1 + 1)).below hB2 (by simp); have b2 : Below w.heap.size w w2 := ((((Below.refl w.heap.size w).alloc (Nat.le_refl _) (.cells #[.int .i64 a, .int .i64 b, .int .i64 p, .int .i64 c, .int .i64 n, .slice none 0 0] 71)).alloc (by simp) (.cells #[.int .i64 0, .int .i64 0, .int .i64 0, .slice none 0 0] 30)).alloc (by simp; omega) (.cells #[.func (.func 90) #[.agg #[.int .i64 a, .int .i64 b, .int .i64 p, .int .i64 c, .int .i64 n, .slice none 0 0]] #[], .func (.func 91) #[.agg #[.int .i64 a, .int .i64 b, .int .i64 p, .int .i64 c, .int .i64 n, .slice none 0 0]] #[]] 106)).trans (hB2.mono (by simp; omega)); clear hB2))
    | (refine wpList_store_own rfl 53 _ _ rfl _ _ rfl rfl 53 _ (Own.new w2 _ _) (row26 (d17 _ _ hol.out)) (z_eq (d17 _ _ hol.out)) (dcells_one _ _) ?_; intro w3 oD3 hN3; have oS3 := (oS2.alloc _).only hN3 (by have := oS2.lt; omega); have oR3 := (oR2.alloc _).only hN3 (by have := oR2.lt; omega); have oF3 := (oF2.alloc _).only hN3 (by have := oF2.lt; omega); have b3 : Below w.heap.size w w3 := (b2.alloc b2.size _).trans (hN3.below.mono b2.size))
    | (refine wpList_load_part rfl 30 (.tmp 24) rfl w.heap.size 2 rfl #[.int .i64 p, .int .i64 c, .int .i64 n, .slice none 0 0] _ (skv_like oS3) Try.underlying30 rfl (by kernel_rfl) ?_)
    | (refine wpList_load_row rfl 53 _ rfl _ rfl 53 _ (0, 0) _ (oD3) Try.underlying53 rfl (row26 (d17 _ _ (hol.out))) ?_)
    | (go_at_call 38; ((with_reducible refine (hlk.out w3).mono ?_); rintro e w4 ⟨g4, rfl, hg4, hO4, hB4⟩; have oS4 := oS3.below hB4 oS3.lt; have oR4 := oR3.below hB4 oR3.lt; have oF4 := oF3.below hB4 oF3.lt; have b4 := b3.trans (hB4.mono b3.size)))
    | (refine wpList_store_own rfl 30 _ _ rfl _ _ rfl rfl 30 _ (Own.new w4 _ _) (by kernel_rfl) rfl (by simp [Value.oneCell']) ?_; intro w5 oP5 hN5))
  have l4 := oS4.lt
  have l5 := oR4.lt
  have l7 := oF4.lt
  have l6 := hO4.lt
  have oS5 := (oS4.alloc _).only hN5 (by omega)
  have oR5 := (oR4.alloc _).only hN5 (by omega)
  have oF5 := (oF4.alloc _).only hN5 (by omega)
  have r5 : Res w5 w.heap.size (some ⟨g4, 0, none⟩) [(n, U, 1)] := .inr ⟨g4, rfl, MnT.ofOne (by have := b3.size; omega) ((hO4.alloc _).only hN5 (by omega))⟩
  have b5 : Below w.heap.size w w5 := (b4.alloc b4.size _).trans (hN5.below.mono b4.size)
  obtain ⟨e8, he8⟩ : ∃ x, w4.heap.size = x := ⟨_, rfl⟩
  rw [he8] at oP5 l4 l5 l7 ⊢
  clear oS2 oR2 oF2 b2 oS3 oR3 oF3 b3 hN3 oD3 hB4 oS4 oR4 oF4 b4 hN5 hO4 l6 he8 hun hlk
  go_wp2
  go_loopw [30] (fun x wr => ∃ (i : Nat) (q : Option Addr) (cp : Nat), i ≤ m ∧ x = .int .i64 i ∧ Own wr w.heap.size #[.int .i64 a, .int .i64 b, .int .i64 p, .int .i64 c, .int .i64 n, .slice none 0 0] 71 ∧ Own wr (w.heap.size + 1) #[.int .i64 0, .int .i64 0, .int .i64 0, .slice none 0 0] 30 ∧ Own wr (w.heap.size + 1 + 1) #[.func (.func 90) #[.agg #[.int .i64 a, .int .i64 b, .int .i64 p, .int .i64 c, .int .i64 n, .slice none 0 0]] #[], .func (.func 91) #[.agg #[.int .i64 a, .int .i64 b, .int .i64 p, .int .i64 c, .int .i64 n, .slice none 0 0]] #[]] 106 ∧ Own wr e8 #[.int .i64 p, .int .i64 c, .int .i64 n, .slice q (F i).length cp] 30 ∧ Res wr w.heap.size q (F i) ∧ Below w.heap.size w wr) (fun x _ => (m - intOf x).toNat)
  case atStart => exact ⟨0, some ⟨g4, 0, none⟩, 1, by omega, rfl, oS5, oR5, oF5, by rw [hF0.out]; exact oP5, by rw [hF0.out]; exact r5, b5⟩
  case round =>
    clear oS5 oR5 oF5 oP5 r5 b5 hF0
    obtain ⟨i, q, cp, hi0, rfl, oS, oR, oF, oP, rP, bW⟩ := hrel
    by_cases hlt : i < m
    · have lI : (i : Int) < (m : Int) := by omega
      have hix : i < xs.length := by rw [hmm.out]; exact hlt
      have rT := hRx.out _ bW
      obtain ⟨ad, rfl⟩ := rd_some rT hix
      have c1 := rT.cell ad rfl i hix
      have hOk := hFo.out i (by rw [hmm.out]; exact hi0)
      have hOk1 := hFo.out (i + 1) (by rw [hmm.out]; exact hlt)
      have hst := hFs.out i hix
      have hxi := hxg.out i hix
      obtain ⟨x, hxx⟩ : ∃ x, xs.getD i 0 = x := ⟨_, rfl⟩
      rw [hxx] at c1 hst hxi
      have hlt2 := hlo.out x hxi
      have hpo' := Lib.hid (fun q2 cp2 W h1 h2 => hpo.out q q2 cp cp2 (F i) (ltN p n a b x) hOk hlt2 W h1 h2)
      rw [← hst] at hpo'
      have hel' := Lib.hid (fun u nn W h => hel.out u nn (F (i + 1)) W h hOk1)
      have h16 := good16 hOk.1
      have h16b := good16 hlt2.1
      have hrP := Lib.hid (fun W B q (h : Res W B q (F i)) => h.rd h16)
      have hpl := Lib.hid (fun w => crsI_any x w (by omega))
      obtain ⟨l, hl⟩ : ∃ l, (F i).length = l := ⟨_, rfl⟩
      have hll := Lib.hid hl
      obtain ⟨l1, hl1⟩ : ∃ l, (F (i + 1)).length = l := ⟨_, rfl⟩
      have hl1' := Lib.hid hl1
      rw [hl] at hpo' oP
      rw [hl1] at hel'
      have mx : -100 ≤ max x (-x) - 1 ∧ max x (-x) - 1 ≤ 100 := by omega
      have lF := oF.lt
      have lP := oP.lt
      have hh6 : n ≤ 6 := h6
      clear hpo hlo hFs hxg hFo hst hxx hOk hOk1 rT hl hl1 hel
      by_cases hneg : x < 0
      · have hlv : ltN p n a b x = crN p n (-x - 1) b a := by unfold ltN; rw [if_pos hneg]
        have hmv : max x (-x) - 1 = -x - 1 := by omega
        rw [hmv] at hpl
        have hcv := Lib.hid (fun w => hiv.out (-x - 1) w (by omega) (by omega))
        rw [← hlv] at hcv
        have hr2 := Lib.hid (fun W B q (h : Res W B q (ltN p n a b x)) => h.rd h16b)
        obtain ⟨T, hT⟩ : ∃ T, ltN p n a b x = T := ⟨_, rfl⟩
        rw [hT] at hpo' hcv hr2
        obtain ⟨lt, hlt3⟩ : ∃ l, T.length = l := ⟨_, rfl⟩
        rw [hlt3] at hpo' hcv
        obtain ⟨y, hy⟩ : ∃ y, -x - 1 = y := ⟨_, rfl⟩
        rw [hy] at hpl hcv
        clear hlv hmv hT hlt2 h16b hlt3 hy mx h16 hcr hiv
        go_upto_region 10 with fail
        refine wp_region_st (fun x => Own x w.heap.size #[.int .i64 a, .int .i64 b, .int .i64 p, .int .i64 c, .int .i64 n, .slice none 0 0] 71 ∧ Own x e8 #[.int .i64 p, .int .i64 c, .int .i64 n, .slice q l cp] 30 ∧ Own x (w.heap.size + 1 + 1) #[.func (.func 90) #[.agg #[.int .i64 a, .int .i64 b, .int .i64 p, .int .i64 c, .int .i64 n, .slice none 0 0]] #[], .func (.func 91) #[.agg #[.int .i64 a, .int .i64 b, .int .i64 p, .int .i64 c, .int .i64 n, .slice none 0 0]] #[]] 106) [(true, 0), (true, 1), (true, 2), (true, 3), (true, 4), (true, 5), (true, 6), (true, 7), (false, 8), (false, 9)] 10 (by kernel_rfl) (by kernel_rfl) ⟨oS.drewN 1, oP.drewN 1, oF.drewN 1⟩ ?_
        have oSd : Own { wr with drawn := wr.drawn + 1 } w.heap.size #[.int .i64 a, .int .i64 b, .int .i64 p, .int .i64 c, .int .i64 n, .slice none 0 0] 71 := oS
        have oRd : Own { wr with drawn := wr.drawn + 1 } (w.heap.size + 1) #[.int .i64 0, .int .i64 0, .int .i64 0, .slice none 0 0] 30 := oR
        have oPd : Own { wr with drawn := wr.drawn + 1 } e8 #[.int .i64 p, .int .i64 c, .int .i64 n, .slice q l cp] 30 := oP
        have oFd : Own { wr with drawn := wr.drawn + 1 } (w.heap.size + 1 + 1) #[.func (.func 90) #[.agg #[.int .i64 a, .int .i64 b, .int .i64 p, .int .i64 c, .int .i64 n, .slice none 0 0]] #[], .func (.func 91) #[.agg #[.int .i64 a, .int .i64 b, .int .i64 p, .int .i64 c, .int .i64 n, .slice none 0 0]] #[]] 106 := oF
        have bd : Below w.heap.size w { wr with drawn := wr.drawn + 1 } := bW.drew
        have rd : Res { wr with drawn := wr.drawn + 1 } w.heap.size q (F i) := rP
        clear oS oR oP oF bW rP c1
        generalize ({ wr with drawn := wr.drawn + 1 } : World) = w3 at *
        simp only [List.map_cons, List.map_nil, opS'_mk, opN_zero, opN_succ, List.drop_succ_cons, List.drop_zero]
        (apply wpSt_read; · (intro wd hS K hK; rw [if_pos (by rfl)]; refine still_load_row 71 (.tmp 2) rfl w.heap.size rfl 71 #[.int .i64 a, .int .i64 b, .int .i64 p, .int .i64 c, .int .i64 n, .slice none 0 0] _ hS.1 Try.underlying71 rfl (by kernel_rfl) ?_; exact hK))
        (apply wpSt_read; · (intro wd hS K hK; rw [if_pos (by rfl)]; refine still_load_row 30 (.tmp 8) rfl e8 rfl 30 #[.int .i64 p, .int .i64 c, .int .i64 n, .slice q l cp] _ hS.2.1 Try.underlying30 rfl (by kernel_rfl) ?_; exact hK))
        iterate 5 (apply wpSt_read; · (intro wd hS K hK; have k0 : wd.cell? ⟨w.heap.size + 1 + 1, 1, none⟩ = some (.func (.func 91) #[.agg #[.int .i64 a, .int .i64 b, .int .i64 p, .int .i64 c, .int .i64 n, .slice none 0 0]] #[]) := hS.2.2.cell 1; clear hS; go_simp; exact hK))
        (apply wpSt_read; · (intro wd hS K hK; clear hS; go_simp; exact ⟨_, hpl.out _, hK⟩))
        refine wpSt_keep (fun K hK => ?_)
        go_wp2_with (first
          | (go_at_call 91; ((with_reducible refine (hcv.out w3).mono ?_); rintro e w4 ⟨⟨q2, cp2, rfl, hr⟩, hB4⟩)))
        have oS4 := oSd.below hB4 oSd.lt
        have oR4 := oRd.below hB4 oRd.lt
        have oP4 := oPd.below hB4 oPd.lt
        have oF4 := oFd.below hB4 oFd.lt
        have b4 := bd.trans (hB4.mono bd.size)
        have r4 := rd.below hB4 (Nat.le_refl _)
        refine hK _ _ ⟨oS4, oP4, oF4⟩ rfl ?_
        clear hK K oSd oRd oPd oFd hB4 rd bd
        refine wpSt_keep (fun K hK => ?_)
        go_wp2_with (first
          | (go_at_call 40; ((with_reducible refine (hpo'.out q2 cp2 w4 (hrP.out _ _ _ r4) (hr2.out _ _ _ hr)).mono ?_); rintro e w5 ⟨⟨u1, n1, rfl, hn1, hb1, hM5⟩, hB5⟩)))
        have oS5 := oS4.below hB5 oS4.lt
        have oR5 := oR4.below hB5 oR4.lt
        have oP5 := oP4.below hB5 oP4.lt
        have oF5 := oF4.below hB5 oF4.lt
        have b5 := b4.trans (hB5.mono b4.size)
        refine hK _ _ ⟨oS5, oP5, oF5⟩ rfl ?_
        clear hK K oS4 oR4 oP4 oF4 hB5 r4 b4 hr
        refine wpSt_nil ?_
        go_wp2_with (first
          | (go_at_call 93; ((with_reducible refine (hel'.out u1 n1 w5 hM5).mono ?_); rintro e w6 ⟨⟨q3, cp3, rfl, hr3⟩, hB6⟩; have oS6 := oS5.below hB6 oS5.lt; have oR6 := oR5.below hB6 oR5.lt; have oP6 := oP5.below hB6 oP5.lt; have oF6 := oF5.below hB6 oF5.lt; have b6 := b5.trans (hB6.mono b5.size); have r6 := hr3.weak b5.size))
          | (refine wpList_store_own rfl 30 _ _ rfl _ _ rfl rfl 30 _ oP6 (by kernel_rfl) rfl (by simp [Value.oneCell']) ?_; intro w7 oP7 hN7))
        have hl1e := hl1'.out
        subst hl1e
        go_roundw
        case rel => exact ⟨i + 1, q3, cp3, by omega, by go_num, oS6.only hN7 (by omega), oR6.only hN7 (by omega), oF6.only hN7 (by omega), oP7, Res.nl2 r6 hN7 oP6, b6.trans (hN7.below.mono (by omega))⟩
        case measure => simp [intOf]; omega
      · have hlv : ltN p n a b x = crN p n (x - 1) a b := by unfold ltN; rw [if_neg hneg]
        have hmv : max x (-x) - 1 = x - 1 := by omega
        rw [hmv] at hpl
        have hcv := Lib.hid (fun w => hcr.out (x - 1) w (by omega) (by omega))
        rw [← hlv] at hcv
        have hr2 := Lib.hid (fun W B q (h : Res W B q (ltN p n a b x)) => h.rd h16b)
        obtain ⟨T, hT⟩ : ∃ T, ltN p n a b x = T := ⟨_, rfl⟩
        rw [hT] at hpo' hcv hr2
        obtain ⟨lt, hlt3⟩ : ∃ l, T.length = l := ⟨_, rfl⟩
        rw [hlt3] at hpo' hcv
        obtain ⟨y, hy⟩ : ∃ y, x - 1 = y := ⟨_, rfl⟩
        rw [hy] at hpl hcv
        clear hlv hmv hT hlt2 h16b hlt3 hy mx h16 hcr hiv
        go_upto_region 10 with fail
        refine wp_region_st (fun x => Own x w.heap.size #[.int .i64 a, .int .i64 b, .int .i64 p, .int .i64 c, .int .i64 n, .slice none 0 0] 71 ∧ Own x e8 #[.int .i64 p, .int .i64 c, .int .i64 n, .slice q l cp] 30 ∧ Own x (w.heap.size + 1 + 1) #[.func (.func 90) #[.agg #[.int .i64 a, .int .i64 b, .int .i64 p, .int .i64 c, .int .i64 n, .slice none 0 0]] #[], .func (.func 91) #[.agg #[.int .i64 a, .int .i64 b, .int .i64 p, .int .i64 c, .int .i64 n, .slice none 0 0]] #[]] 106) [(true, 0), (true, 1), (true, 2), (true, 3), (true, 4), (true, 5), (true, 6), (true, 7), (false, 8), (false, 9)] 10 (by kernel_rfl) (by kernel_rfl) ⟨oS.drewN 1, oP.drewN 1, oF.drewN 1⟩ ?_
        have oSd : Own { wr with drawn := wr.drawn + 1 } w.heap.size #[.int .i64 a, .int .i64 b, .int .i64 p, .int .i64 c, .int .i64 n, .slice none 0 0] 71 := oS
        have oRd : Own { wr with drawn := wr.drawn + 1 } (w.heap.size + 1) #[.int .i64 0, .int .i64 0, .int .i64 0, .slice none 0 0] 30 := oR
        have oPd : Own { wr with drawn := wr.drawn + 1 } e8 #[.int .i64 p, .int .i64 c, .int .i64 n, .slice q l cp] 30 := oP
        have oFd : Own { wr with drawn := wr.drawn + 1 } (w.heap.size + 1 + 1) #[.func (.func 90) #[.agg #[.int .i64 a, .int .i64 b, .int .i64 p, .int .i64 c, .int .i64 n, .slice none 0 0]] #[], .func (.func 91) #[.agg #[.int .i64 a, .int .i64 b, .int .i64 p, .int .i64 c, .int .i64 n, .slice none 0 0]] #[]] 106 := oF
        have bd : Below w.heap.size w { wr with drawn := wr.drawn + 1 } := bW.drew
        have rd : Res { wr with drawn := wr.drawn + 1 } w.heap.size q (F i) := rP
        clear oS oR oP oF bW rP c1
        generalize ({ wr with drawn := wr.drawn + 1 } : World) = w3 at *
        simp only [List.map_cons, List.map_nil, opS'_mk, opN_zero, opN_succ, List.drop_succ_cons, List.drop_zero]
        (apply wpSt_read; · (intro wd hS K hK; rw [if_pos (by rfl)]; refine still_load_row 71 (.tmp 2) rfl w.heap.size rfl 71 #[.int .i64 a, .int .i64 b, .int .i64 p, .int .i64 c, .int .i64 n, .slice none 0 0] _ hS.1 Try.underlying71 rfl (by kernel_rfl) ?_; exact hK))
        (apply wpSt_read; · (intro wd hS K hK; rw [if_pos (by rfl)]; refine still_load_row 30 (.tmp 8) rfl e8 rfl 30 #[.int .i64 p, .int .i64 c, .int .i64 n, .slice q l cp] _ hS.2.1 Try.underlying30 rfl (by kernel_rfl) ?_; exact hK))
        iterate 5 (apply wpSt_read; · (intro wd hS K hK; have k0 : wd.cell? ⟨w.heap.size + 1 + 1, 0, none⟩ = some (.func (.func 90) #[.agg #[.int .i64 a, .int .i64 b, .int .i64 p, .int .i64 c, .int .i64 n, .slice none 0 0]] #[]) := hS.2.2.cell 0; clear hS; go_simp; exact hK))
        (apply wpSt_read; · (intro wd hS K hK; clear hS; go_simp; exact ⟨_, hpl.out _, hK⟩))
        refine wpSt_keep (fun K hK => ?_)
        go_wp2_with (first
          | (go_at_call 90; ((with_reducible refine (hcv.out w3).mono ?_); rintro e w4 ⟨⟨q2, cp2, rfl, hr⟩, hB4⟩)))
        have oS4 := oSd.below hB4 oSd.lt
        have oR4 := oRd.below hB4 oRd.lt
        have oP4 := oPd.below hB4 oPd.lt
        have oF4 := oFd.below hB4 oFd.lt
        have b4 := bd.trans (hB4.mono bd.size)
        have r4 := rd.below hB4 (Nat.le_refl _)
        refine hK _ _ ⟨oS4, oP4, oF4⟩ rfl ?_
        clear hK K oSd oRd oPd oFd hB4 rd bd
        refine wpSt_keep (fun K hK => ?_)
        go_wp2_with (first
          | (go_at_call 40; ((with_reducible refine (hpo'.out q2 cp2 w4 (hrP.out _ _ _ r4) (hr2.out _ _ _ hr)).mono ?_); rintro e w5 ⟨⟨u1, n1, rfl, hn1, hb1, hM5⟩, hB5⟩)))
        have oS5 := oS4.below hB5 oS4.lt
        have oR5 := oR4.below hB5 oR4.lt
        have oP5 := oP4.below hB5 oP4.lt
        have oF5 := oF4.below hB5 oF4.lt
        have b5 := b4.trans (hB5.mono b4.size)
        refine hK _ _ ⟨oS5, oP5, oF5⟩ rfl ?_
        clear hK K oS4 oR4 oP4 oF4 hB5 r4 b4 hr
        refine wpSt_nil ?_
        go_wp2_with (first
          | (go_at_call 93; ((with_reducible refine (hel'.out u1 n1 w5 hM5).mono ?_); rintro e w6 ⟨⟨q3, cp3, rfl, hr3⟩, hB6⟩; have oS6 := oS5.below hB6 oS5.lt; have oR6 := oR5.below hB6 oR5.lt; have oP6 := oP5.below hB6 oP5.lt; have oF6 := oF5.below hB6 oF5.lt; have b6 := b5.trans (hB6.mono b5.size); have r6 := hr3.weak b5.size))
          | (refine wpList_store_own rfl 30 _ _ rfl _ _ rfl rfl 30 _ oP6 (by kernel_rfl) rfl (by simp [Value.oneCell']) ?_; intro w7 oP7 hN7))
        have hl1e := hl1'.out
        subst hl1e
        go_roundw
        case rel => exact ⟨i + 1, q3, cp3, by omega, by go_num, oS6.only hN7 (by omega), oR6.only hN7 (by omega), oF6.only hN7 (by omega), oP7, Res.nl2 r6 hN7 oP6, b6.trans (hN7.below.mono (by omega))⟩
        case measure => simp [intOf]; omega
    · obtain rfl : i = m := by omega
      have lI : ¬ (i : Int) < (i : Int) := by omega
      rw [hFe.out] at oP rP
      go_wp2_with (first
        | (refine wpList_load_row rfl 30 _ rfl _ rfl 30 _ (0, 0) _ oP Try.underlying30 rfl (by kernel_rfl) ?_)
        | (refine wpList_store_own rfl 30 _ _ rfl _ _ rfl rfl 30 _ oR (by kernel_rfl) rfl (by simp [Value.oneCell']) ?_; intro w7 oR7 hN7))
      refine bodyPost_ret (v := .agg #[.int .i64 p, .int .i64 c, .int .i64 n, .slice q R.length cp]) (results_cell_row rfl _ _ _ _ _ (0, 0) _ rfl oR7 Try.underlying30 rfl (by kernel_rfl)) rfl ⟨⟨q, ⟨cp, rfl⟩, Res.nl2 rP hN7 oR⟩, bW.trans (hN7.below.mono (by omega))⟩
end Go.Proofs.Ytbibmncepjmgcaa
