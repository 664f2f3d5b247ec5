/- The element of a braid word: the model. (Written by genbrs.py.) -/
import Derived.Test.YtbibmncepjmgcaaBrm
import Derived.Test.YtbibmncepjmgcaaBrd
import Derived.Test.YtbibmncepjmgcaaPos
import Derived.Test.YtbibmncepjmgcaaKf
import Derived.Test.YtbibmncepjmgcaaPutS
namespace Go.Proofs.Ytbibmncepjmgcaa
open Go.RowKit Go.Lib
set_option linter.unusedVariables false
set_option linter.unusedSimpArgs false
theorem box_dia {w : World} {g : Nat} {n : Int} {ms : List Int} (h : Own w g (dcells n ms) 53) : ∀ (j : Nat) (v : Value), (dcells n ms).toList[j]? = some v → w.cell? ((⟨g, 0, none⟩ : Addr).add j) = some v := by
  intro j v hj
  rw [Addr.add_mid, Nat.zero_add, h.cell]
  rw [← Array.getElem?_toList]
  exact hj
set_option maxRecDepth 100000 in
set_option maxHeartbeats 16000000 in
theorem beoS_any (p a n : Int) (h : baseB p a = true) (h2 : 2 ≤ n) (h6 : n ≤ 6) (q0 : Option Addr) (cap : Nat) (xs : List Int) (hxl : xs.length ≤ 24) (hxs : ∀ x ∈ xs, x ≠ 0 ∧ -n < x ∧ x < n) (w : World) (hR : Rd w q0 xs) :
    Calls Try.prog 43 #[.int .i64 p, .int .i64 a, .int .i64 n, .slice q0 xs.length cap] w fun e w' => (∃ g cp, e = .returned (.agg (ecl p (lvN p a) n (.slice (some ⟨g, 0, none⟩) (brN p (lvN p a) n a (rcp p a) xs).length cp))) ∧ MnT w' w.heap.size g (brN p (lvN p a) n a (rcp p a) xs)) ∧ Below w.heap.size w w' := by
  obtain ⟨hpr, hp, hp2, a1, a2⟩ := baseB_t h
  have h8 : n ≤ 8 := by omega
  have hlv := Lib.hid (fun w => loopS_any p a w h)
  have hin := Lib.hid (fun w1 => (invS_any p a w1 hpr a1 a2).mono fun e w' h => (show e = .returned (.int .i64 (rcp p a)) ∧ w' = w1 from ⟨h.1, h.2.symm⟩))
  have hrb := rcp_pos p a hpr a1 a2
  have hc0 : 0 ≤ lvN p a := Int.emod_nonneg _ (by omega)
  have hc1 : lvN p a < p := Int.emod_lt_of_pos _ (by omega)
  obtain ⟨c, hc⟩ : ∃ c, lvN p a = c := ⟨_, rfl⟩
  obtain ⟨b, hb⟩ : ∃ b, rcp p a = b := ⟨_, rfl⟩
  rw [hc] at hlv hc0 hc1 ⊢
  rw [hb] at hin hrb ⊢
  clear h hpr hc hb
  obtain ⟨F, hF⟩ : ∃ F : Nat → List Tm, (fun k => brN p c n a b (xs.take k)) = F := ⟨_, rfl⟩
  have hF' : ∀ k, brN p c n a b (xs.take k) = F k := fun k => congrFun hF k
  have hFo0 : ∀ k, k ≤ xs.length → OkE p n (F k) := fun k hk => by rw [← hF']; exact brN_ok hp hp2 h2 h6 xs hxs k hk
  have hFo := Lib.hid hFo0
  have hF0 := Lib.hid (show F 0 = [(n, oneL n n.toNat, 1)] by rw [← hF']; rfl)
  have hFs := Lib.hid (fun k (hk : k < xs.length) => show F (k + 1) = prN p c n (F k) (ltN p n a b (xs.getD k 0)) from by rw [← hF', ← hF', brN_take _ _ _ _ _ _ _ hk])
  have hxg := Lib.hid (fun k (hk : k < xs.length) => show xs.getD k 0 ≠ 0 ∧ -n < xs.getD k 0 ∧ xs.getD k 0 < n from hxs _ (by rw [List.getD_eq_getElem?_getD, List.getElem?_eq_getElem hk]; exact List.getElem_mem _))
  have hFe := Lib.hid (show F xs.length = brN p c n a b xs by rw [← hF', List.take_length])
  obtain ⟨R, hRR⟩ : ∃ R, brN p c n a b xs = R := ⟨_, rfl⟩
  rw [hRR] at hFe ⊢
  have hon := Lib.hid (fun q w => oneE_any p c n q 0 0 (by omega) h8 w)
  have hem := Lib.hid (fun q w => emptyS_any p c n q 0 0 w)
  have hun := Lib.hid (fun w => oneS_any n w (by omega) h8)
  have hcu := Lib.hid (fun i w (h0 : 0 ≤ i) (hi : i ≤ n - 2) => cupS_any n i w h2 h8 h0 hi)
  have hol := Lib.hid (oneL_len n n.toNat)
  have hcl := Lib.hid (fun i => cupL_len n i)
  have hti := Lib.hid (fun (g g2 : Nat) (cp cp2 : Nat) (L M : List Tm) (hL : OkE p n L) (hM : OkE p n M) W h1 h2 => timS_any p c n p c n n g g2 cp cp2 L M (hL.all hp2) (hM.all hp2) hL.2.2 hM.2.2 hp hp2 hc0 hc1 W h1 h2)
  have hp1 := Lib.hid (fun B g cp s W (hM : MnT W B g []) hB (hs : 0 ≤ s ∧ s ≤ 100) => putS_any B g cp [] p s n (oneL n n.toNat) W hM hB (by simp) (by simp) (Good.nil p) hp hp2 (by omega) (by omega) (one_vd (by omega) h8))
  have hp3 := Lib.hid (fun B g cp s t i W (hM : MnT W B g (addT p (n, oneL n n.toNat) s [])) hB hcp (h0 : 0 ≤ i) (hi : i ≤ n - 2) (ht : 0 ≤ t ∧ t ≤ 100) => putS_any B g cp (addT p (n, oneL n n.toNat) s []) p t n (cupL n i) W hM hB hcp (by have := addT_len p (n, oneL n n.toNat) s []; simp at this; omega) (add_good linD (by omega) (one_vd (by omega) h8) (Good.nil p)) hp hp2 (by omega) (by omega) (cup_vd h2 h8 h0 hi))
  have hcrd := Lib.hid (fun i s t => show addT p (n, cupL n i) t (addT p (n, oneL n n.toNat) s []) = crN p n i s t from rfl)
  have hlo := Lib.hid (fun x (hx : x ≠ 0 ∧ -n < x ∧ x < n) => show OkE p n (ltN p n a b x) from ltN_ok hp h2 h8 hx)
  have hRx := Lib.hid (fun w' (hb : Below w.heap.size w w') => hR.below hb)
  obtain ⟨U, hU⟩ : ∃ U, oneL n n.toNat = U := ⟨_, rfl⟩
  rw [hU] at hun hol hon hF0 hp1 hp3 hcrd
  rw [show ([] : List Tm).length = 0 from rfl] at hp1
  obtain ⟨m, hm⟩ : ∃ m, xs.length = m := ⟨_, rfl⟩
  have hmm := Lib.hid hm
  rw [hm] at hFe hxl
  rw [hm]
  clear hxs hR hF hF' hFo0 hRR hU hm hc0 hc1
  unfold ecl at *
  go_enter Try.func43, Try.ntmps43
  go_upto_region 2 with (first
    | (go_at_call 84; ((with_reducible refine (hlv.out _).mono ?_); rintro e w1 ⟨rfl, rfl⟩)))
  have oE2 : Own (((w.alloc (.cells #[.int .i64 0, .int .i64 0, .int .i64 0, .slice none 0 0] 30)).alloc (.cells #[] 56)).alloc (.cells #[.int .i64 p, .int .i64 c, .int .i64 n, .slice (some ⟨w.heap.size + 1, 0, none⟩) 0 0] 30)) (w.heap.size + 1 + 1) #[.int .i64 p, .int .i64 c, .int .i64 n, .slice (some ⟨w.heap.size + 1, 0, none⟩) 0 0] 30 := Own.at _ _ _ (by simp)
  have oR2 : Own (((w.alloc (.cells #[.int .i64 0, .int .i64 0, .int .i64 0, .slice none 0 0] 30)).alloc (.cells #[] 56)).alloc (.cells #[.int .i64 p, .int .i64 c, .int .i64 n, .slice (some ⟨w.heap.size + 1, 0, none⟩) 0 0] 30)) w.heap.size #[.int .i64 0, .int .i64 0, .int .i64 0, .slice none 0 0] 30 := ((Own.new w _ _).alloc _).alloc _
  have b2 : Below w.heap.size w (((w.alloc (.cells #[.int .i64 0, .int .i64 0, .int .i64 0, .slice none 0 0] 30)).alloc (.cells #[] 56)).alloc (.cells #[.int .i64 p, .int .i64 c, .int .i64 n, .slice (some ⟨w.heap.size + 1, 0, none⟩) 0 0] 30)) := (((Below.refl w.heap.size w).alloc (Nat.le_refl _) _).alloc (by simp) _).alloc (by simp; omega) _
  generalize (((w.alloc (.cells #[.int .i64 0, .int .i64 0, .int .i64 0, .slice none 0 0] 30)).alloc (.cells #[] 56)).alloc (.cells #[.int .i64 p, .int .i64 c, .int .i64 n, .slice (some ⟨w.heap.size + 1, 0, none⟩) 0 0] 30)) = w2 at *
  go_upto_region 3 with (first
    | (refine wpList_load_row rfl 30 _ rfl _ rfl 30 _ (0, 0) _ oE2 Try.underlying30 rfl (by kernel_rfl) ?_)
    | (go_at_call 85; ((with_reducible refine (hon.out _ w2).mono ?_); rintro e w4 ⟨g4, cp4, rfl, hM4, hcp4, hB4⟩; have oE4 := oE2.below hB4 oE2.lt; have oR4 := oR2.below hB4 oR2.lt; have b4 := b2.trans (hB4.mono b2.size)))
    | (go_at_call 55; ((with_reducible refine (hin.out _).mono ?_); rintro e wq ⟨rfl, rfl⟩)))
  have l4 := oE4.lt
  have l5 := oR4.lt
  have oE5 := oE4.alloc (.cells #[.int .i64 p, .int .i64 c, .int .i64 n, .slice (some ⟨g4, 0, none⟩) 1 cp4] 30)
  have oR5 := oR4.alloc (.cells #[.int .i64 p, .int .i64 c, .int .i64 n, .slice (some ⟨g4, 0, none⟩) 1 cp4] 30)
  have oP5 : Own (wq.alloc (.cells #[.int .i64 p, .int .i64 c, .int .i64 n, .slice (some ⟨g4, 0, none⟩) 1 cp4] 30)) wq.heap.size #[.int .i64 p, .int .i64 c, .int .i64 n, .slice (some ⟨g4, 0, none⟩) 1 cp4] 30 := Own.new _ _ _
  have r5 : MnT (wq.alloc (.cells #[.int .i64 p, .int .i64 c, .int .i64 n, .slice (some ⟨g4, 0, none⟩) 1 cp4] 30)) w.heap.size g4 [(n, U, 1)] := (hM4.alloc _).weak b2.size
  have b5 : Below w.heap.size w (wq.alloc (.cells #[.int .i64 p, .int .i64 c, .int .i64 n, .slice (some ⟨g4, 0, none⟩) 1 cp4] 30)) := b4.alloc b4.size _
  generalize hwz : wq.alloc (.cells #[.int .i64 p, .int .i64 c, .int .i64 n, .slice (some ⟨g4, 0, none⟩) 1 cp4] 30) = w5 at *
  clear hwz
  obtain ⟨e8, he8⟩ : ∃ x, wq.heap.size = x := ⟨_, rfl⟩
  rw [he8] at oP5 l4 l5 ⊢
  clear oE2 oR2 b2 oE4 oR4 hB4 b4 hM4 he8 hlv hin hon
  go_wp2
  go_loopw [12] (fun x wr => ∃ (i g cp : Nat), i ≤ m ∧ x = .int .i64 i ∧ Own wr (w.heap.size + 1 + 1) #[.int .i64 p, .int .i64 c, .int .i64 n, .slice (some ⟨w.heap.size + 1, 0, none⟩) 0 0] 30 ∧ Own wr w.heap.size #[.int .i64 0, .int .i64 0, .int .i64 0, .slice none 0 0] 30 ∧ Own wr e8 #[.int .i64 p, .int .i64 c, .int .i64 n, .slice (some ⟨g, 0, none⟩) (F i).length cp] 30 ∧ MnT wr w.heap.size g (F i) ∧ Below w.heap.size w wr) (fun x _ => (m - intOf x).toNat)
  case atStart => exact ⟨0, g4, cp4, by omega, rfl, oE5, oR5, by rw [hF0.out]; exact oP5, by rw [hF0.out]; exact r5, b5⟩
  case round =>
    clear oE5 oR5 oP5 r5 b5 hF0
    obtain ⟨i, g, cp, hi0, rfl, oE, oR, oP, rP, bW⟩ := hrel
    by_cases hlt : i < m
    · have lI : (i : Int) < (m : Int) := by omega
      have hix : i < xs.length := by rw [hmm.out]; exact hlt
      have rT := hRx.out _ bW
      obtain ⟨ad, rfl⟩ := rd_some rT hix
      have c1 := rT.cell ad rfl i hix
      have hOk := hFo.out i (by rw [hmm.out]; exact hi0)
      have hst := hFs.out i hix
      have hxi := hxg.out i hix
      obtain ⟨x, hxx⟩ : ∃ x, xs.getD i 0 = x := ⟨_, rfl⟩
      rw [hxx] at c1 hst hxi
      have hlt2 := hlo.out x hxi
      have hti' := Lib.hid (fun g2 cp2 W h1 h2 => hti.out g g2 cp cp2 (F i) (ltN p n a b x) hOk hlt2 W h1 h2)
      rw [← hst] at hti'
      have h16 := good16 hOk.1
      have h16b := good16 hlt2.1
      have hrP := Lib.hid (fun W B g (h : MnT W B g (F i)) => h.rd h16)
      obtain ⟨l, hl⟩ : ∃ l, (F i).length = l := ⟨_, rfl⟩
      have hll := Lib.hid hl
      obtain ⟨l1, hl1⟩ : ∃ l, (F (i + 1)).length = l := ⟨_, rfl⟩
      have hl1' := Lib.hid hl1
      rw [hl] at hti' oP
      rw [hl1] at hti'
      have lE := oE.lt
      have lR := oR.lt
      have lP := oP.lt
      have ws1 : IntKind.i64.wrap (-x) = -x := IntWalk.i64_in _ (by omega)
      have ws2 : IntKind.i64.wrap (-x - 1) = -x - 1 := IntWalk.i64_in _ (by omega)
      have ws3 : IntKind.i64.wrap (x - 1) = x - 1 := IntWalk.i64_in _ (by omega)
      clear hlo hFs hxg hFo hst hxx hOk rT hl hl1 hti
      by_cases hneg : x < 0
      · have hlv : ltN p n a b x = crN p n (-x - 1) b a := by unfold ltN; rw [if_pos hneg]
        have hmx : max x (-x) = -x := by omega
        have hmx2 : (x < -x) = True := by simp; omega
        have hq1 := Lib.hid (fun B g cp W hM hB => hp1.out B g cp b W hM hB (by omega))
        have hq3 := Lib.hid (fun B g cp W hM hB hcp => hp3.out B g cp b a (-x - 1) W hM hB hcp (by omega) (by omega) (by omega))
        have hcuq := Lib.hid (fun w => hcu.out (-x - 1) w (by omega) (by omega))
        have hq4 := hcrd.out (-x - 1) b a
        rw [hq4, ← hlv] at hq3
        have hr2 := Lib.hid (fun W B g (h : MnT W B g (ltN p n a b x)) => h.rd h16b)
        obtain ⟨T, hT⟩ : ∃ T, ltN p n a b x = T := ⟨_, rfl⟩
        rw [hT] at hti' hq3 hr2
        obtain ⟨T1, hT1⟩ : ∃ T, addT p (n, U) b [] = T := ⟨_, rfl⟩
        rw [hT1] at hq1 hq3
        have hVl := Lib.hid (hcl.out (-x - 1))
        obtain ⟨V, hV⟩ : ∃ V, cupL n (-x - 1) = V := ⟨_, rfl⟩
        rw [hV] at hq3 hcuq hVl
        obtain ⟨lt, hlt3⟩ : ∃ l, T.length = l := ⟨_, rfl⟩
        rw [hlt3] at hti' hq3
        obtain ⟨lt1, hlt4⟩ : ∃ l, T1.length = l := ⟨_, rfl⟩
        rw [hlt4] at hq1 hq3
        clear hlv hT hT1 hV hlt2 h16b hlt3 hlt4 h16 hcu hcl hp1 hp3 hcrd hq4
        go_upto_region 6 with fail
        refine wp_region_still_lit (by kernel_rfl) (by kernel_rfl) ?_
        have oEd : Own { wr with drawn := wr.drawn + 1 } (w.heap.size + 1 + 1) #[.int .i64 p, .int .i64 c, .int .i64 n, .slice (some ⟨w.heap.size + 1, 0, none⟩) 0 0] 30 := oE
        have oRd : Own { wr with drawn := wr.drawn + 1 } w.heap.size #[.int .i64 0, .int .i64 0, .int .i64 0, .slice none 0 0] 30 := oR
        have oPd : Own { wr with drawn := wr.drawn + 1 } e8 #[.int .i64 p, .int .i64 c, .int .i64 n, .slice (some ⟨g, 0, none⟩) l cp] 30 := oP
        have bd : Below w.heap.size w { wr with drawn := wr.drawn + 1 } := bW.drew
        have rd : MnT { wr with drawn := wr.drawn + 1 } w.heap.size g (F i) := rP
        have cd : ({ wr with drawn := wr.drawn + 1 } : World).cell? _ = _ := c1
        have lPd : e8 < ({ wr with drawn := wr.drawn + 1 } : World).heap.size := lP
        clear oE oR oP bW rP c1 lE lR lP
        generalize ({ wr with drawn := wr.drawn + 1 } : World) = w3 at *
        iterate 16 still_step
        refine wpStill_nil ?_
        go_upto_region 11 with (first
          | (refine wpList_load_row rfl 30 _ rfl _ rfl 30 _ (0, 0) _ oEd Try.underlying30 rfl (by kernel_rfl) ?_)
          | (go_at_call 31; ((with_reducible refine (hem.out _ w3).mono ?_); rintro e w4 ⟨g6, rfl, hg6, hT6, hB4⟩))
          | (refine wpList_store_own rfl 30 _ _ rfl _ _ rfl rfl 30 _ (Own.new w4 _ _) (by kernel_rfl) rfl (by simp [Value.oneCell']) ?_; intro w5 oQ5 hN5))
        have s4 := hB4.size
        have lT := hT6.lt
        have lE4 := oEd.lt
        have lR4 := oRd.lt
        have oE5 := ((oEd.below hB4 oEd.lt).alloc (.cells #[.int .i64 0, .int .i64 0, .int .i64 0, .slice none 0 0] 30)).only hN5 (by omega)
        have oR5 := ((oRd.below hB4 oRd.lt).alloc (.cells #[.int .i64 0, .int .i64 0, .int .i64 0, .slice none 0 0] 30)).only hN5 (by omega)
        have oP5 := ((oPd.below hB4 oPd.lt).alloc (.cells #[.int .i64 0, .int .i64 0, .int .i64 0, .slice none 0 0] 30)).only hN5 (by omega)
        have r5 : MnT w5 w.heap.size g (F i) := by
          obtain ⟨h0, sp, ho⟩ := rd
          exact ⟨h0, sp, ((ho.below hB4 ho.lt).alloc (.cells #[.int .i64 0, .int .i64 0, .int .i64 0, .slice none 0 0] 30)).only hN5 (by have := ho.lt; omega)⟩
        have hb3 := bd.size
        have r6 : MnT w5 w.heap.size g6 [] := ⟨by omega, [], by simpa [tsl] using (hT6.alloc (.cells #[.int .i64 0, .int .i64 0, .int .i64 0, .slice none 0 0] 30)).only hN5 (by omega)⟩
        have bA := bd.trans (hB4.mono bd.size)
        have b5 : Below w.heap.size w w5 := (bA.alloc bA.size _).trans (hN5.below.mono bA.size)
        obtain ⟨d6, hd6⟩ : ∃ x, w4.heap.size = x := ⟨_, rfl⟩
        rw [hd6] at oQ5 ⊢
        have d6b : w.heap.size + 1 + 1 < d6 ∧ e8 < d6 := by omega
        clear oEd oRd oPd rd bd hB4 hN5 hT6 hd6 bA s4 lT cd lPd
        refine wp_region_st (fun x => Own x d6 #[.int .i64 p, .int .i64 c, .int .i64 n, .slice (some ⟨g6, 0, none⟩) 0 0] 30) [(true, 0), (true, 1), (true, 2), (true, 3), (true, 5), (false, 4), (false, 6), (true, 7)] 8 (by kernel_rfl) (by kernel_rfl) (oQ5.drewN 1) ?_
        have oEd : Own { w5 with drawn := w5.drawn + 1 } (w.heap.size + 1 + 1) #[.int .i64 p, .int .i64 c, .int .i64 n, .slice (some ⟨w.heap.size + 1, 0, none⟩) 0 0] 30 := oE5
        have oRd : Own { w5 with drawn := w5.drawn + 1 } w.heap.size #[.int .i64 0, .int .i64 0, .int .i64 0, .slice none 0 0] 30 := oR5
        have oPd : Own { w5 with drawn := w5.drawn + 1 } e8 #[.int .i64 p, .int .i64 c, .int .i64 n, .slice (some ⟨g, 0, none⟩) l cp] 30 := oP5
        have oQd : Own { w5 with drawn := w5.drawn + 1 } d6 #[.int .i64 p, .int .i64 c, .int .i64 n, .slice (some ⟨g6, 0, none⟩) 0 0] 30 := oQ5
        have bd : Below w.heap.size w { w5 with drawn := w5.drawn + 1 } := b5.drew
        have rd : MnT { w5 with drawn := w5.drawn + 1 } w.heap.size g (F i) := r5
        have qd : MnT { w5 with drawn := w5.drawn + 1 } w.heap.size g6 [] := r6
        clear oE5 oR5 oP5 oQ5 r5 r6 b5
        generalize ({ w5 with drawn := w5.drawn + 1 } : World) = w5 at *
        simp only [List.map_cons, List.map_nil, opS'_mk, opN_zero, opN_succ, List.drop_succ_cons, List.drop_zero]
        iterate 5 (apply wpSt_read; · (intro wd hS K hK; have d3 : wd.cell? ⟨d6, 3, none⟩ = some (.slice (some ⟨g6, 0, none⟩) 0 0) := hS.cell 3; clear hS; go_simp; exact hK))
        refine wpSt_keep (fun K hK => ?_)
        go_wp2_with (first
          | (go_at_call 69; ((with_reducible refine (hun.out w5).mono ?_); rintro e w6 ⟨rfl, hB6⟩)))
        have oE6 := oEd.below hB6 oEd.lt
        have oR6 := oRd.below hB6 oRd.lt
        have oP6 := oPd.below hB6 oPd.lt
        have oQ6 := oQd.below hB6 oQd.lt
        have r6 := rd.below hB6 rd.lt
        have q6 := qd.below hB6 qd.lt
        have b6 := bd.trans (hB6.mono bd.size)
        refine hK _ _ oQ6 rfl ?_
        clear hK K oEd oRd oPd oQd rd qd bd hB6
        refine wpSt_keep (fun K hK => ?_)
        go_wp2_with (first
          | (go_at_call 71; ((with_reducible refine (hq1.out w.heap.size g6 0 w6 q6 b6.size).mono ?_); rintro e w7 ⟨⟨g7, cp7, rfl, hc7, q7⟩, hB7⟩)))
        have oE7 := oE6.below hB7 oE6.lt
        have oR7 := oR6.below hB7 oR6.lt
        have oP7 := oP6.below hB7 oP6.lt
        have oQ7 := oQ6.below hB7 oQ6.lt
        have r7 := r6.below hB7 r6.lt
        have b7 := b6.trans (hB7.mono b6.size)
        refine hK _ _ oQ7 rfl ?_
        clear hK K oE6 oR6 oP6 oQ6 r6 q6 b6 hB7
        (apply wpSt_read; · (intro wd hS K hK; clear hS; go_simp; exact hK))
        refine wpSt_nil ?_
        have e6 : w7.cell? ⟨d6, 3, none⟩ = some (.slice (some ⟨g6, 0, none⟩) 0 0) := oQ7.cell 3
        have f6 := oQ7.free 3
        go_wp2
        have hs8 : ∀ v j, j ≠ d6 → (w7.setCell ⟨d6, 3, none⟩ v).heap[j]? = w7.heap[j]? := fun v j hj => Below.heap_setCell _ _ _ _ hj
        have oQ8 : Own (w7.setCell ⟨d6, 3, none⟩ (.slice (some ⟨g7, 0, none⟩) lt1 cp7)) d6 #[.int .i64 p, .int .i64 c, .int .i64 n, .slice (some ⟨g7, 0, none⟩) lt1 cp7] 30 := oQ7.set 3 (.slice (some ⟨g7, 0, none⟩) lt1 cp7)
        have oE8 : Own (w7.setCell ⟨d6, 3, none⟩ (.slice (some ⟨g7, 0, none⟩) lt1 cp7)) (w.heap.size + 1 + 1) #[.int .i64 p, .int .i64 c, .int .i64 n, .slice (some ⟨w.heap.size + 1, 0, none⟩) 0 0] 30 := (hs8 _ _ (by omega)).trans oE7
        have oR8 : Own (w7.setCell ⟨d6, 3, none⟩ (.slice (some ⟨g7, 0, none⟩) lt1 cp7)) w.heap.size #[.int .i64 0, .int .i64 0, .int .i64 0, .slice none 0 0] 30 := (hs8 _ _ (by omega)).trans oR7
        have oP8 : Own (w7.setCell ⟨d6, 3, none⟩ (.slice (some ⟨g7, 0, none⟩) lt1 cp7)) e8 #[.int .i64 p, .int .i64 c, .int .i64 n, .slice (some ⟨g, 0, none⟩) l cp] 30 := (hs8 _ _ (by omega)).trans oP7
        have b8 := b7.setCell (p := ⟨d6, 3, none⟩) (by show w.heap.size ≤ d6; omega) (.slice (some ⟨g7, 0, none⟩) lt1 cp7)
        have q8 : MnT (w7.setCell ⟨d6, 3, none⟩ (.slice (some ⟨g7, 0, none⟩) lt1 cp7)) w.heap.size g7 T1 := by
          obtain ⟨h0, sp, ho⟩ := q7
          exact ⟨h0, sp, ho.only (Only.set d6 3 w7 _) (ho.neTz oQ7 (by decide))⟩
        have r8 : MnT (w7.setCell ⟨d6, 3, none⟩ (.slice (some ⟨g7, 0, none⟩) lt1 cp7)) w.heap.size g (F i) := by
          obtain ⟨h0, sp, ho⟩ := r7
          exact ⟨h0, sp, ho.only (Only.set d6 3 w7 _) (ho.neTz oQ7 (by decide))⟩
        clear oE7 oR7 oP7 oQ7 q7 r7 b7 e6 f6 hs8
        generalize w7.setCell ⟨d6, 3, none⟩ (.slice (some ⟨g7, 0, none⟩) lt1 cp7) = w8 at *
        refine wp_region_st (fun x => Own x d6 #[.int .i64 p, .int .i64 c, .int .i64 n, .slice (some ⟨g7, 0, none⟩) lt1 cp7] 30) [(true, 0), (true, 1), (true, 2), (true, 3), (true, 4), (true, 6), (false, 5), (false, 7), (true, 8)] 9 (by kernel_rfl) (by kernel_rfl) (oQ8.drewN 1) ?_
        have oEd : Own { w8 with drawn := w8.drawn + 1 } (w.heap.size + 1 + 1) #[.int .i64 p, .int .i64 c, .int .i64 n, .slice (some ⟨w.heap.size + 1, 0, none⟩) 0 0] 30 := oE8
        have oRd : Own { w8 with drawn := w8.drawn + 1 } w.heap.size #[.int .i64 0, .int .i64 0, .int .i64 0, .slice none 0 0] 30 := oR8
        have oPd : Own { w8 with drawn := w8.drawn + 1 } e8 #[.int .i64 p, .int .i64 c, .int .i64 n, .slice (some ⟨g, 0, none⟩) l cp] 30 := oP8
        have oQd : Own { w8 with drawn := w8.drawn + 1 } d6 #[.int .i64 p, .int .i64 c, .int .i64 n, .slice (some ⟨g7, 0, none⟩) lt1 cp7] 30 := oQ8
        have bd : Below w.heap.size w { w8 with drawn := w8.drawn + 1 } := b8.drew
        have rd : MnT { w8 with drawn := w8.drawn + 1 } w.heap.size g (F i) := r8
        have qd : MnT { w8 with drawn := w8.drawn + 1 } w.heap.size g7 T1 := q8
        clear oE8 oR8 oP8 oQ8 r8 q8 b8
        generalize ({ w8 with drawn := w8.drawn + 1 } : World) = w8 at *
        simp only [List.map_cons, List.map_nil, opS'_mk, opN_zero, opN_succ, List.drop_succ_cons, List.drop_zero]
        iterate 6 (apply wpSt_read; · (intro wd hS K hK; have d3 : wd.cell? ⟨d6, 3, none⟩ = some (.slice (some ⟨g7, 0, none⟩) lt1 cp7) := hS.cell 3; clear hS; go_simp; exact hK))
        refine wpSt_keep (fun K hK => ?_)
        go_wp2_with (first
          | (go_at_call 32; ((with_reducible refine (hcuq.out w8).mono ?_); rintro e w9 ⟨rfl, hB9⟩)))
        have oE9 := oEd.below hB9 oEd.lt
        have oR9 := oRd.below hB9 oRd.lt
        have oP9 := oPd.below hB9 oPd.lt
        have oQ9 := oQd.below hB9 oQd.lt
        have r9 := rd.below hB9 rd.lt
        have q9 := qd.below hB9 qd.lt
        have b9 := bd.trans (hB9.mono bd.size)
        refine hK _ _ oQ9 rfl ?_
        clear hK K oEd oRd oPd oQd rd qd bd hB9
        refine wpSt_keep (fun K hK => ?_)
        go_wp2_with (first
          | (go_at_call 71; ((with_reducible refine (hq3.out w.heap.size g7 cp7 w9 q9 b9.size hc7).mono ?_); rintro e wa ⟨⟨ga, cpa, rfl, hca, qa⟩, hBa⟩)))
        have oEa := oE9.below hBa oE9.lt
        have oRa := oR9.below hBa oR9.lt
        have oPa := oP9.below hBa oP9.lt
        have oQa := oQ9.below hBa oQ9.lt
        have ra := r9.below hBa r9.lt
        have ba := b9.trans (hBa.mono b9.size)
        refine hK _ _ oQa rfl ?_
        clear hK K oE9 oR9 oP9 oQ9 r9 q9 b9 hBa
        (apply wpSt_read; · (intro wd hS K hK; clear hS; go_simp; exact hK))
        refine wpSt_nil ?_
        have e6 : wa.cell? ⟨d6, 3, none⟩ = some (.slice (some ⟨g7, 0, none⟩) lt1 cp7) := oQa.cell 3
        have f6 := oQa.free 3
        have hsb : ∀ v j, j ≠ d6 → (wa.setCell ⟨d6, 3, none⟩ v).heap[j]? = wa.heap[j]? := fun v j hj => Below.heap_setCell _ _ _ _ hj
        have oQb : Own (wa.setCell ⟨d6, 3, none⟩ (.slice (some ⟨ga, 0, none⟩) lt cpa)) d6 #[.int .i64 p, .int .i64 c, .int .i64 n, .slice (some ⟨ga, 0, none⟩) lt cpa] 30 := oQa.set 3 (.slice (some ⟨ga, 0, none⟩) lt cpa)
        have oEb : Own (wa.setCell ⟨d6, 3, none⟩ (.slice (some ⟨ga, 0, none⟩) lt cpa)) (w.heap.size + 1 + 1) #[.int .i64 p, .int .i64 c, .int .i64 n, .slice (some ⟨w.heap.size + 1, 0, none⟩) 0 0] 30 := (hsb _ _ (by omega)).trans oEa
        have oRb : Own (wa.setCell ⟨d6, 3, none⟩ (.slice (some ⟨ga, 0, none⟩) lt cpa)) w.heap.size #[.int .i64 0, .int .i64 0, .int .i64 0, .slice none 0 0] 30 := (hsb _ _ (by omega)).trans oRa
        have oPb : Own (wa.setCell ⟨d6, 3, none⟩ (.slice (some ⟨ga, 0, none⟩) lt cpa)) e8 #[.int .i64 p, .int .i64 c, .int .i64 n, .slice (some ⟨g, 0, none⟩) l cp] 30 := (hsb _ _ (by omega)).trans oPa
        have bb := ba.setCell (p := ⟨d6, 3, none⟩) (by show w.heap.size ≤ d6; omega) (.slice (some ⟨ga, 0, none⟩) lt cpa)
        have qb : MnT (wa.setCell ⟨d6, 3, none⟩ (.slice (some ⟨ga, 0, none⟩) lt cpa)) w.heap.size ga T := by
          obtain ⟨h0, sp, ho⟩ := qa
          exact ⟨h0, sp, ho.only (Only.set d6 3 wa _) (ho.neTz oQa (by decide))⟩
        have rb : MnT (wa.setCell ⟨d6, 3, none⟩ (.slice (some ⟨ga, 0, none⟩) lt cpa)) w.heap.size g (F i) := by
          obtain ⟨h0, sp, ho⟩ := ra
          exact ⟨h0, sp, ho.only (Only.set d6 3 wa _) (ho.neTz oQa (by decide))⟩
        clear oEa oRa oPa qa ra ba hsb
        go_upto_region 13 with fail
        clear oQa e6 f6
        generalize wa.setCell ⟨d6, 3, none⟩ (.slice (some ⟨ga, 0, none⟩) lt cpa) = wb at *
        go_wp2_with (first
          | (refine wpList_load_row rfl 30 _ rfl _ rfl 30 _ (0, 0) _ oPb Try.underlying30 rfl (by kernel_rfl) ?_)
          | (refine wpList_load_row rfl 30 _ rfl _ rfl 30 _ (0, 0) _ oQb Try.underlying30 rfl (by kernel_rfl) ?_)
          | (go_at_call 34; ((with_reducible refine (hti'.out ga cpa wb (hrP.out _ _ _ rb) (hr2.out _ _ _ qb)).mono ?_); rintro e wc ⟨⟨gc, cpc, rfl, hcc, qc⟩, hBc⟩; have oEc := oEb.below hBc oEb.lt; have oRc := oRb.below hBc oRb.lt; have oPc := oPb.below hBc oPb.lt; have bc := bb.trans (hBc.mono bb.size); have qc' := qc.weak bb.size))
          | (refine wpList_store_own rfl 30 _ _ rfl _ _ rfl rfl 30 _ oPc (by kernel_rfl) rfl (by simp [Value.oneCell']) ?_; intro wz oPz hNz))
        have hl1e := hl1'.out
        subst hl1e
        go_roundw
        case rel => exact ⟨i + 1, gc, cpc, by omega, by go_num, oEc.only hNz (by omega), oRc.only hNz (by omega), oPz, (by obtain ⟨h0, sp, ho⟩ := qc'; exact ⟨h0, sp, ho.only hNz (ho.neTz oPc (by decide))⟩), bc.trans (hNz.below.mono (by omega))⟩
        case measure => simp [intOf]; omega
      · have hlv : ltN p n a b x = crN p n (x - 1) a b := by unfold ltN; rw [if_neg hneg]
        have hmx : max x (-x) = x := by omega
        have hmx2 : (x < -x) = False := by simp; omega
        have hq1 := Lib.hid (fun B g cp W hM hB => hp1.out B g cp a W hM hB (by omega))
        have hq3 := Lib.hid (fun B g cp W hM hB hcp => hp3.out B g cp a b (x - 1) W hM hB hcp (by omega) (by omega) (by omega))
        have hcuq := Lib.hid (fun w => hcu.out (x - 1) w (by omega) (by omega))
        have hq4 := hcrd.out (x - 1) a b
        rw [hq4, ← hlv] at hq3
        have hr2 := Lib.hid (fun W B g (h : MnT W B g (ltN p n a b x)) => h.rd h16b)
        obtain ⟨T, hT⟩ : ∃ T, ltN p n a b x = T := ⟨_, rfl⟩
        rw [hT] at hti' hq3 hr2
        obtain ⟨T1, hT1⟩ : ∃ T, addT p (n, U) a [] = T := ⟨_, rfl⟩
        rw [hT1] at hq1 hq3
        have hVl := Lib.hid (hcl.out (x - 1))
        obtain ⟨V, hV⟩ : ∃ V, cupL n (x - 1) = V := ⟨_, rfl⟩
        rw [hV] at hq3 hcuq hVl
        obtain ⟨lt, hlt3⟩ : ∃ l, T.length = l := ⟨_, rfl⟩
        rw [hlt3] at hti' hq3
        obtain ⟨lt1, hlt4⟩ : ∃ l, T1.length = l := ⟨_, rfl⟩
        rw [hlt4] at hq1 hq3
        clear hlv hT hT1 hV hlt2 h16b hlt3 hlt4 h16 hcu hcl hp1 hp3 hcrd hq4
        go_upto_region 6 with fail
        refine wp_region_still_lit (by kernel_rfl) (by kernel_rfl) ?_
        have oEd : Own { wr with drawn := wr.drawn + 1 } (w.heap.size + 1 + 1) #[.int .i64 p, .int .i64 c, .int .i64 n, .slice (some ⟨w.heap.size + 1, 0, none⟩) 0 0] 30 := oE
        have oRd : Own { wr with drawn := wr.drawn + 1 } w.heap.size #[.int .i64 0, .int .i64 0, .int .i64 0, .slice none 0 0] 30 := oR
        have oPd : Own { wr with drawn := wr.drawn + 1 } e8 #[.int .i64 p, .int .i64 c, .int .i64 n, .slice (some ⟨g, 0, none⟩) l cp] 30 := oP
        have bd : Below w.heap.size w { wr with drawn := wr.drawn + 1 } := bW.drew
        have rd : MnT { wr with drawn := wr.drawn + 1 } w.heap.size g (F i) := rP
        have cd : ({ wr with drawn := wr.drawn + 1 } : World).cell? _ = _ := c1
        have lPd : e8 < ({ wr with drawn := wr.drawn + 1 } : World).heap.size := lP
        clear oE oR oP bW rP c1 lE lR lP
        generalize ({ wr with drawn := wr.drawn + 1 } : World) = w3 at *
        iterate 16 still_step
        refine wpStill_nil ?_
        go_upto_region 11 with (first
          | (refine wpList_load_row rfl 30 _ rfl _ rfl 30 _ (0, 0) _ oEd Try.underlying30 rfl (by kernel_rfl) ?_)
          | (go_at_call 31; ((with_reducible refine (hem.out _ w3).mono ?_); rintro e w4 ⟨g6, rfl, hg6, hT6, hB4⟩))
          | (refine wpList_store_own rfl 30 _ _ rfl _ _ rfl rfl 30 _ (Own.new w4 _ _) (by kernel_rfl) rfl (by simp [Value.oneCell']) ?_; intro w5 oQ5 hN5))
        have s4 := hB4.size
        have lT := hT6.lt
        have lE4 := oEd.lt
        have lR4 := oRd.lt
        have oE5 := ((oEd.below hB4 oEd.lt).alloc (.cells #[.int .i64 0, .int .i64 0, .int .i64 0, .slice none 0 0] 30)).only hN5 (by omega)
        have oR5 := ((oRd.below hB4 oRd.lt).alloc (.cells #[.int .i64 0, .int .i64 0, .int .i64 0, .slice none 0 0] 30)).only hN5 (by omega)
        have oP5 := ((oPd.below hB4 oPd.lt).alloc (.cells #[.int .i64 0, .int .i64 0, .int .i64 0, .slice none 0 0] 30)).only hN5 (by omega)
        have r5 : MnT w5 w.heap.size g (F i) := by
          obtain ⟨h0, sp, ho⟩ := rd
          exact ⟨h0, sp, ((ho.below hB4 ho.lt).alloc (.cells #[.int .i64 0, .int .i64 0, .int .i64 0, .slice none 0 0] 30)).only hN5 (by have := ho.lt; omega)⟩
        have hb3 := bd.size
        have r6 : MnT w5 w.heap.size g6 [] := ⟨by omega, [], by simpa [tsl] using (hT6.alloc (.cells #[.int .i64 0, .int .i64 0, .int .i64 0, .slice none 0 0] 30)).only hN5 (by omega)⟩
        have bA := bd.trans (hB4.mono bd.size)
        have b5 : Below w.heap.size w w5 := (bA.alloc bA.size _).trans (hN5.below.mono bA.size)
        obtain ⟨d6, hd6⟩ : ∃ x, w4.heap.size = x := ⟨_, rfl⟩
        rw [hd6] at oQ5 ⊢
        have d6b : w.heap.size + 1 + 1 < d6 ∧ e8 < d6 := by omega
        clear oEd oRd oPd rd bd hB4 hN5 hT6 hd6 bA s4 lT cd lPd
        refine wp_region_st (fun x => Own x d6 #[.int .i64 p, .int .i64 c, .int .i64 n, .slice (some ⟨g6, 0, none⟩) 0 0] 30) [(true, 0), (true, 1), (true, 2), (true, 3), (true, 5), (false, 4), (false, 6), (true, 7)] 8 (by kernel_rfl) (by kernel_rfl) (oQ5.drewN 1) ?_
        have oEd : Own { w5 with drawn := w5.drawn + 1 } (w.heap.size + 1 + 1) #[.int .i64 p, .int .i64 c, .int .i64 n, .slice (some ⟨w.heap.size + 1, 0, none⟩) 0 0] 30 := oE5
        have oRd : Own { w5 with drawn := w5.drawn + 1 } w.heap.size #[.int .i64 0, .int .i64 0, .int .i64 0, .slice none 0 0] 30 := oR5
        have oPd : Own { w5 with drawn := w5.drawn + 1 } e8 #[.int .i64 p, .int .i64 c, .int .i64 n, .slice (some ⟨g, 0, none⟩) l cp] 30 := oP5
        have oQd : Own { w5 with drawn := w5.drawn + 1 } d6 #[.int .i64 p, .int .i64 c, .int .i64 n, .slice (some ⟨g6, 0, none⟩) 0 0] 30 := oQ5
        have bd : Below w.heap.size w { w5 with drawn := w5.drawn + 1 } := b5.drew
        have rd : MnT { w5 with drawn := w5.drawn + 1 } w.heap.size g (F i) := r5
        have qd : MnT { w5 with drawn := w5.drawn + 1 } w.heap.size g6 [] := r6
        clear oE5 oR5 oP5 oQ5 r5 r6 b5
        generalize ({ w5 with drawn := w5.drawn + 1 } : World) = w5 at *
        simp only [List.map_cons, List.map_nil, opS'_mk, opN_zero, opN_succ, List.drop_succ_cons, List.drop_zero]
        iterate 5 (apply wpSt_read; · (intro wd hS K hK; have d3 : wd.cell? ⟨d6, 3, none⟩ = some (.slice (some ⟨g6, 0, none⟩) 0 0) := hS.cell 3; clear hS; go_simp; exact hK))
        refine wpSt_keep (fun K hK => ?_)
        go_wp2_with (first
          | (go_at_call 69; ((with_reducible refine (hun.out w5).mono ?_); rintro e w6 ⟨rfl, hB6⟩)))
        have oE6 := oEd.below hB6 oEd.lt
        have oR6 := oRd.below hB6 oRd.lt
        have oP6 := oPd.below hB6 oPd.lt
        have oQ6 := oQd.below hB6 oQd.lt
        have r6 := rd.below hB6 rd.lt
        have q6 := qd.below hB6 qd.lt
        have b6 := bd.trans (hB6.mono bd.size)
        refine hK _ _ oQ6 rfl ?_
        clear hK K oEd oRd oPd oQd rd qd bd hB6
        refine wpSt_keep (fun K hK => ?_)
        go_wp2_with (first
          | (go_at_call 71; ((with_reducible refine (hq1.out w.heap.size g6 0 w6 q6 b6.size).mono ?_); rintro e w7 ⟨⟨g7, cp7, rfl, hc7, q7⟩, hB7⟩)))
        have oE7 := oE6.below hB7 oE6.lt
        have oR7 := oR6.below hB7 oR6.lt
        have oP7 := oP6.below hB7 oP6.lt
        have oQ7 := oQ6.below hB7 oQ6.lt
        have r7 := r6.below hB7 r6.lt
        have b7 := b6.trans (hB7.mono b6.size)
        refine hK _ _ oQ7 rfl ?_
        clear hK K oE6 oR6 oP6 oQ6 r6 q6 b6 hB7
        (apply wpSt_read; · (intro wd hS K hK; clear hS; go_simp; exact hK))
        refine wpSt_nil ?_
        have e6 : w7.cell? ⟨d6, 3, none⟩ = some (.slice (some ⟨g6, 0, none⟩) 0 0) := oQ7.cell 3
        have f6 := oQ7.free 3
        go_wp2
        have hs8 : ∀ v j, j ≠ d6 → (w7.setCell ⟨d6, 3, none⟩ v).heap[j]? = w7.heap[j]? := fun v j hj => Below.heap_setCell _ _ _ _ hj
        have oQ8 : Own (w7.setCell ⟨d6, 3, none⟩ (.slice (some ⟨g7, 0, none⟩) lt1 cp7)) d6 #[.int .i64 p, .int .i64 c, .int .i64 n, .slice (some ⟨g7, 0, none⟩) lt1 cp7] 30 := oQ7.set 3 (.slice (some ⟨g7, 0, none⟩) lt1 cp7)
        have oE8 : Own (w7.setCell ⟨d6, 3, none⟩ (.slice (some ⟨g7, 0, none⟩) lt1 cp7)) (w.heap.size + 1 + 1) #[.int .i64 p, .int .i64 c, .int .i64 n, .slice (some ⟨w.heap.size + 1, 0, none⟩) 0 0] 30 := (hs8 _ _ (by omega)).trans oE7
        have oR8 : Own (w7.setCell ⟨d6, 3, none⟩ (.slice (some ⟨g7, 0, none⟩) lt1 cp7)) w.heap.size #[.int .i64 0, .int .i64 0, .int .i64 0, .slice none 0 0] 30 := (hs8 _ _ (by omega)).trans oR7
        have oP8 : Own (w7.setCell ⟨d6, 3, none⟩ (.slice (some ⟨g7, 0, none⟩) lt1 cp7)) e8 #[.int .i64 p, .int .i64 c, .int .i64 n, .slice (some ⟨g, 0, none⟩) l cp] 30 := (hs8 _ _ (by omega)).trans oP7
        have b8 := b7.setCell (p := ⟨d6, 3, none⟩) (by show w.heap.size ≤ d6; omega) (.slice (some ⟨g7, 0, none⟩) lt1 cp7)
        have q8 : MnT (w7.setCell ⟨d6, 3, none⟩ (.slice (some ⟨g7, 0, none⟩) lt1 cp7)) w.heap.size g7 T1 := by
          obtain ⟨h0, sp, ho⟩ := q7
          exact ⟨h0, sp, ho.only (Only.set d6 3 w7 _) (ho.neTz oQ7 (by decide))⟩
        have r8 : MnT (w7.setCell ⟨d6, 3, none⟩ (.slice (some ⟨g7, 0, none⟩) lt1 cp7)) w.heap.size g (F i) := by
          obtain ⟨h0, sp, ho⟩ := r7
          exact ⟨h0, sp, ho.only (Only.set d6 3 w7 _) (ho.neTz oQ7 (by decide))⟩
        clear oE7 oR7 oP7 oQ7 q7 r7 b7 e6 f6 hs8
        generalize w7.setCell ⟨d6, 3, none⟩ (.slice (some ⟨g7, 0, none⟩) lt1 cp7) = w8 at *
        refine wp_region_st (fun x => Own x d6 #[.int .i64 p, .int .i64 c, .int .i64 n, .slice (some ⟨g7, 0, none⟩) lt1 cp7] 30) [(true, 0), (true, 1), (true, 2), (true, 3), (true, 4), (true, 6), (false, 5), (false, 7), (true, 8)] 9 (by kernel_rfl) (by kernel_rfl) (oQ8.drewN 1) ?_
        have oEd : Own { w8 with drawn := w8.drawn + 1 } (w.heap.size + 1 + 1) #[.int .i64 p, .int .i64 c, .int .i64 n, .slice (some ⟨w.heap.size + 1, 0, none⟩) 0 0] 30 := oE8
        have oRd : Own { w8 with drawn := w8.drawn + 1 } w.heap.size #[.int .i64 0, .int .i64 0, .int .i64 0, .slice none 0 0] 30 := oR8
        have oPd : Own { w8 with drawn := w8.drawn + 1 } e8 #[.int .i64 p, .int .i64 c, .int .i64 n, .slice (some ⟨g, 0, none⟩) l cp] 30 := oP8
        have oQd : Own { w8 with drawn := w8.drawn + 1 } d6 #[.int .i64 p, .int .i64 c, .int .i64 n, .slice (some ⟨g7, 0, none⟩) lt1 cp7] 30 := oQ8
        have bd : Below w.heap.size w { w8 with drawn := w8.drawn + 1 } := b8.drew
        have rd : MnT { w8 with drawn := w8.drawn + 1 } w.heap.size g (F i) := r8
        have qd : MnT { w8 with drawn := w8.drawn + 1 } w.heap.size g7 T1 := q8
        clear oE8 oR8 oP8 oQ8 r8 q8 b8
        generalize ({ w8 with drawn := w8.drawn + 1 } : World) = w8 at *
        simp only [List.map_cons, List.map_nil, opS'_mk, opN_zero, opN_succ, List.drop_succ_cons, List.drop_zero]
        iterate 6 (apply wpSt_read; · (intro wd hS K hK; have d3 : wd.cell? ⟨d6, 3, none⟩ = some (.slice (some ⟨g7, 0, none⟩) lt1 cp7) := hS.cell 3; clear hS; go_simp; exact hK))
        refine wpSt_keep (fun K hK => ?_)
        go_wp2_with (first
          | (go_at_call 32; ((with_reducible refine (hcuq.out w8).mono ?_); rintro e w9 ⟨rfl, hB9⟩)))
        have oE9 := oEd.below hB9 oEd.lt
        have oR9 := oRd.below hB9 oRd.lt
        have oP9 := oPd.below hB9 oPd.lt
        have oQ9 := oQd.below hB9 oQd.lt
        have r9 := rd.below hB9 rd.lt
        have q9 := qd.below hB9 qd.lt
        have b9 := bd.trans (hB9.mono bd.size)
        refine hK _ _ oQ9 rfl ?_
        clear hK K oEd oRd oPd oQd rd qd bd hB9
        refine wpSt_keep (fun K hK => ?_)
        go_wp2_with (first
          | (go_at_call 71; ((with_reducible refine (hq3.out w.heap.size g7 cp7 w9 q9 b9.size hc7).mono ?_); rintro e wa ⟨⟨ga, cpa, rfl, hca, qa⟩, hBa⟩)))
        have oEa := oE9.below hBa oE9.lt
        have oRa := oR9.below hBa oR9.lt
        have oPa := oP9.below hBa oP9.lt
        have oQa := oQ9.below hBa oQ9.lt
        have ra := r9.below hBa r9.lt
        have ba := b9.trans (hBa.mono b9.size)
        refine hK _ _ oQa rfl ?_
        clear hK K oE9 oR9 oP9 oQ9 r9 q9 b9 hBa
        (apply wpSt_read; · (intro wd hS K hK; clear hS; go_simp; exact hK))
        refine wpSt_nil ?_
        have e6 : wa.cell? ⟨d6, 3, none⟩ = some (.slice (some ⟨g7, 0, none⟩) lt1 cp7) := oQa.cell 3
        have f6 := oQa.free 3
        have hsb : ∀ v j, j ≠ d6 → (wa.setCell ⟨d6, 3, none⟩ v).heap[j]? = wa.heap[j]? := fun v j hj => Below.heap_setCell _ _ _ _ hj
        have oQb : Own (wa.setCell ⟨d6, 3, none⟩ (.slice (some ⟨ga, 0, none⟩) lt cpa)) d6 #[.int .i64 p, .int .i64 c, .int .i64 n, .slice (some ⟨ga, 0, none⟩) lt cpa] 30 := oQa.set 3 (.slice (some ⟨ga, 0, none⟩) lt cpa)
        have oEb : Own (wa.setCell ⟨d6, 3, none⟩ (.slice (some ⟨ga, 0, none⟩) lt cpa)) (w.heap.size + 1 + 1) #[.int .i64 p, .int .i64 c, .int .i64 n, .slice (some ⟨w.heap.size + 1, 0, none⟩) 0 0] 30 := (hsb _ _ (by omega)).trans oEa
        have oRb : Own (wa.setCell ⟨d6, 3, none⟩ (.slice (some ⟨ga, 0, none⟩) lt cpa)) w.heap.size #[.int .i64 0, .int .i64 0, .int .i64 0, .slice none 0 0] 30 := (hsb _ _ (by omega)).trans oRa
        have oPb : Own (wa.setCell ⟨d6, 3, none⟩ (.slice (some ⟨ga, 0, none⟩) lt cpa)) e8 #[.int .i64 p, .int .i64 c, .int .i64 n, .slice (some ⟨g, 0, none⟩) l cp] 30 := (hsb _ _ (by omega)).trans oPa
        have bb := ba.setCell (p := ⟨d6, 3, none⟩) (by show w.heap.size ≤ d6; omega) (.slice (some ⟨ga, 0, none⟩) lt cpa)
        have qb : MnT (wa.setCell ⟨d6, 3, none⟩ (.slice (some ⟨ga, 0, none⟩) lt cpa)) w.heap.size ga T := by
          obtain ⟨h0, sp, ho⟩ := qa
          exact ⟨h0, sp, ho.only (Only.set d6 3 wa _) (ho.neTz oQa (by decide))⟩
        have rb : MnT (wa.setCell ⟨d6, 3, none⟩ (.slice (some ⟨ga, 0, none⟩) lt cpa)) w.heap.size g (F i) := by
          obtain ⟨h0, sp, ho⟩ := ra
          exact ⟨h0, sp, ho.only (Only.set d6 3 wa _) (ho.neTz oQa (by decide))⟩
        clear oEa oRa oPa qa ra ba hsb
        go_upto_region 13 with fail
        clear oQa e6 f6
        generalize wa.setCell ⟨d6, 3, none⟩ (.slice (some ⟨ga, 0, none⟩) lt cpa) = wb at *
        go_wp2_with (first
          | (refine wpList_load_row rfl 30 _ rfl _ rfl 30 _ (0, 0) _ oPb Try.underlying30 rfl (by kernel_rfl) ?_)
          | (refine wpList_load_row rfl 30 _ rfl _ rfl 30 _ (0, 0) _ oQb Try.underlying30 rfl (by kernel_rfl) ?_)
          | (go_at_call 34; ((with_reducible refine (hti'.out ga cpa wb (hrP.out _ _ _ rb) (hr2.out _ _ _ qb)).mono ?_); rintro e wc ⟨⟨gc, cpc, rfl, hcc, qc⟩, hBc⟩; have oEc := oEb.below hBc oEb.lt; have oRc := oRb.below hBc oRb.lt; have oPc := oPb.below hBc oPb.lt; have bc := bb.trans (hBc.mono bb.size); have qc' := qc.weak bb.size))
          | (refine wpList_store_own rfl 30 _ _ rfl _ _ rfl rfl 30 _ oPc (by kernel_rfl) rfl (by simp [Value.oneCell']) ?_; intro wz oPz hNz))
        have hl1e := hl1'.out
        subst hl1e
        go_roundw
        case rel => exact ⟨i + 1, gc, cpc, by omega, by go_num, oEc.only hNz (by omega), oRc.only hNz (by omega), oPz, (by obtain ⟨h0, sp, ho⟩ := qc'; exact ⟨h0, sp, ho.only hNz (ho.neTz oPc (by decide))⟩), bc.trans (hNz.below.mono (by omega))⟩
        case measure => simp [intOf]; omega
    · obtain rfl : i = m := by omega
      have lI : ¬ (i : Int) < (i : Int) := by omega
      rw [hFe.out] at oP rP
      go_wp2_with (first
        | (refine wpList_load_row rfl 30 _ rfl _ rfl 30 _ (0, 0) _ oP Try.underlying30 rfl (by kernel_rfl) ?_)
        | (refine wpList_store_own rfl 30 _ _ rfl _ _ rfl rfl 30 _ oR (by kernel_rfl) rfl (by simp [Value.oneCell']) ?_; intro w7 oR7 hN7))
      refine bodyPost_ret (v := .agg #[.int .i64 p, .int .i64 c, .int .i64 n, .slice (some ⟨g, 0, none⟩) R.length cp]) (results_cell_row rfl _ _ _ _ _ (0, 0) _ rfl oR7 Try.underlying30 rfl (by kernel_rfl)) rfl ⟨⟨g, ⟨cp, rfl⟩, ?_⟩, bW.trans (hN7.below.mono (by omega))⟩
      obtain ⟨h0, sp, ho⟩ := rP
      exact ⟨h0, sp, ho.only hN7 (ho.neTz oR (by decide))⟩
end Go.Proofs.Ytbibmncepjmgcaa
