/- AreEqualBraids: program, model and law. (Written by genaeb.py.) -/
import Derived.Test.YtbibmncepjmgcaaBrx
import Derived.Test.YtbibmncepjmgcaaEqt
namespace Go.Proofs.Ytbibmncepjmgcaa
open Go.RowKit Go.Lib
set_option linter.unusedVariables false
set_option linter.unusedSimpArgs false
set_option maxRecDepth 100000 in
set_option maxHeartbeats 4000000 in
theorem slEq_any (q1 q2 : Option Addr) (cap cap' : Nat) (xs ys : List Tm) (hx : L16 xs) (hy : L16 ys) (hlx : xs.length ≤ 1048576) (hly : ys.length ≤ 1048576) (w : World) (hA : RdT w q1 xs) (hB : RdT w q2 ys) :
    Calls Try.prog 64 #[.slice q1 xs.length cap, .slice q2 ys.length cap'] w fun e w' => e = .returned (.bool (decide (xs = ys))) ∧ Below w.heap.size w w' := by
  obtain ⟨r, hr⟩ : ∃ r, decide (xs = ys) = r := ⟨_, rfl⟩
  have hno := Lib.hid (fun (h : xs ≠ ys) => show r = false from by rw [← hr]; exact decide_eq_false h)
  have hyes := Lib.hid (fun (h : xs = ys) => show r = true from by rw [← hr]; exact decide_eq_true h)
  have hA' := Lib.hid hA
  have hB' := Lib.hid hB
  have hX := Lib.hid hx
  have hY := Lib.hid hy
  rw [hr]
  obtain ⟨l, hl⟩ : ∃ l, xs.length = l := ⟨_, rfl⟩
  obtain ⟨m, hm⟩ : ∃ m, ys.length = m := ⟨_, rfl⟩
  have hL := Lib.hid hl
  have hM := Lib.hid hm
  rw [hl, hm]
  rw [hl] at hlx
  rw [hm] at hly
  clear hA hB hx hy hr hl hm
  go_enter Try.func64, Try.ntmps64
  by_cases hlm : l = m
  · subst hlm
    have hne : ((l : Int) != (l : Int)) = false := by simp
    go_wp2
    go_loopw [13] (fun i wr => ∃ k : Nat, k ≤ l ∧ i = .int .i64 k ∧ (∀ j, j < k → xs.getD j zT = ys.getD j zT) ∧ Below w.heap.size w wr) (fun i _ => ((l : Int) - intOf i).toNat)
    case atStart => exact ⟨0, by omega, rfl, fun j hj => absurd hj (by omega), Below.refl _ _⟩
    case round =>
      obtain ⟨k, hk, rfl, hek0, bW⟩ := hrel
      have hek := Lib.hid hek0
      clear hek0
      by_cases hlt : k < l
      · have hkx : k < xs.length := by rw [hL.out]; exact hlt
        have hky : k < ys.length := by rw [hM.out]; exact hlt
        obtain ⟨a, rfl⟩ : ∃ a, q1 = some a := by
          cases q1 with
          | none => exfalso; have h1 := hA'.out.nil rfl; rw [h1] at hkx; simp at hkx
          | some a => exact ⟨a, rfl⟩
        obtain ⟨b, rfl⟩ : ∃ a, q2 = some a := by
          cases q2 with
          | none => exfalso; have h1 := hB'.out.nil rfl; rw [h1] at hky; simp at hky
          | some a => exact ⟨a, rfl⟩
        have rA := Lib.hid (fun wd (hd : Below w.heap.size w wd) => (hA'.out.below hd).cell _ rfl k hkx)
        have rB := Lib.hid (fun wd (hd : Below w.heap.size w wd) => (hB'.out.below hd).cell _ rfl k hky)
        have tx16 : (xs.getD k zT).2.1.length = 16 := by rw [List.getD_eq_getElem?_getD, List.getElem?_eq_getElem hkx]; exact hX.out _ (List.getElem_mem hkx)
        have ty16 : (ys.getD k zT).2.1.length = 16 := by rw [List.getD_eq_getElem?_getD, List.getElem?_eq_getElem hky]; exact hY.out _ (List.getElem_mem hky)
        have hnx := Lib.hid (fun (h : xs.getD k zT ≠ ys.getD k zT) => hno.out (fun e => h (by rw [e])))
        have hnk := Lib.hid (fun (h : xs.getD k zT = ys.getD k zT) j (hj : j < k + 1) => show xs.getD j zT = ys.getD j zT from by
          by_cases q : j = k
          · subst q; exact h
          · exact hek.out j (by omega))
        obtain ⟨t, ht⟩ : ∃ t, xs.getD k zT = t := ⟨_, rfl⟩
        obtain ⟨u, hu⟩ : ∃ t, ys.getD k zT = t := ⟨_, rfl⟩
        rw [ht] at rA tx16 hnx hnk
        rw [hu] at rB ty16 hnx hnk
        have hE := Lib.hid (fun w => eqTmW t u tx16 ty16 w)
        have h18 := Lib.hid (tcl_len tx16)
        have h18b := Lib.hid (tcl_len ty16)
        obtain ⟨v, hv⟩ : ∃ v, decide (t = u) = v := ⟨_, rfl⟩
        rw [hv] at hE
        have hvt := Lib.hid (fun (h : v = true) => hnk.out (of_decide_eq_true (hv.trans h)))
        have hvf := Lib.hid (fun (h : v = false) => hnx.out (of_decide_eq_false (hv.trans h)))
        have lI : (k : Int) < (l : Int) := by omega
        clear hkx hky tx16 ty16 ht hu hv hek hnx hnk
        go_upto_region 6 with fail
        refine wp_region_still_lit (by kernel_rfl) (by kernel_rfl) ?_
        have bd : Below w.heap.size w { wr with drawn := wr.drawn + 1 } := bW.drew
        clear bW
        generalize ({ wr with drawn := wr.drawn + 1 } : World) = wd at *
        have qA := rA.out wd bd
        have qB := rB.out wd bd
        iterate 3 still_step
        refine wpStill_step (fun K' hK' => ?_)
        rw [if_pos (by rfl)]
        refine still_load_at 56 (.tmp 18) rfl (a.add (k * 18)) (by first | rfl | simp) (tcl t) _ qA Try.underlying56 rfl (by rw [h18.out]; kernel_rfl) ?_
        refine hK' _ ?_
        clear hK' K'
        iterate 3 still_step
        refine wpStill_step (fun K' hK' => ?_)
        rw [if_pos (by rfl)]
        refine still_load_at 56 (.tmp 22) rfl (b.add (k * 18)) (by first | rfl | simp) (tcl u) _ qB Try.underlying56 rfl (by rw [h18b.out]; kernel_rfl) ?_
        refine hK' _ ?_
        clear hK' K'
        refine wpStill_step (fun K' hK' => ?_)
        rw [if_pos (by rfl)]
        refine still_neq _ _ _ _ rfl (tcl t).toArray (tcl u).toArray rfl rfl v (by kernel_rfl) (hE.out wd) ?_
        refine hK' _ ?_
        clear hK' K' qA qB
        refine wpStill_nil ?_
        cases v with
        | true =>
          have hh := hvt.out rfl
          have hh' := Lib.hid hh
          clear hh
          go_wp2
          go_roundw
          case rel => exact ⟨k + 1, by omega, by go_num, hh'.out, bd⟩
          case measure => simp [intOf]; omega
        | false =>
          have hh := hvf.out rfl
          subst hh
          go_wp2
          go_ret
          exact ⟨rfl, bd⟩
      · obtain rfl : k = l := by omega
        have hh := hyes.out (all_eq (by rw [hL.out, hM.out]) (fun j hj => hek.out j (by rw [← hL.out]; exact hj)))
        subst hh
        have lI : ¬ (k : Int) < (k : Int) := by omega
        go_wp2
        go_ret
        exact ⟨rfl, bW⟩
  · have hne : ((l : Int) != (m : Int)) = true := by simp; omega
    have hh := hno.out (fun e => hlm (by rw [← hL.out, ← hM.out, e]))
    subst hh
    go_wp2
    go_ret
    exact ⟨rfl, Below.refl _ w⟩
set_option maxRecDepth 100000 in
set_option maxHeartbeats 4000000 in
theorem aebI_ok (p a n : Int) (q1 q2 : Addr) (cap cap2 : Nat) (xs ys : List Int) (hx : xs.length ≤ 1048576) (hy : ys.length ≤ 1048576) (h1 : baseB p a = true) (h2 : brdB n xs = true) (h3 : brdB n ys = true) (w : World) (hR : Rd w (some q1) xs) (hRy : Rd w (some q2) ys) :
    Calls Try.prog 28 #[.int .i64 p, .int .i64 a, .int .i64 n, .slice (some q1) xs.length cap, .slice (some q2) ys.length cap2] w fun e w' => e = .returned (.tuple #[.bool (decide (brN p (lvN p a) n a (rcp p a) xs = brN p (lvN p a) n a (rcp p a) ys)), .int .i64 0]) ∧ Below w.heap.size w w' := by
  obtain ⟨hpr, hp, hp2, a1, a2⟩ := baseB_t h1
  obtain ⟨⟨n2, n6, hxl⟩, hxs⟩ := brdB_t h2
  obtain ⟨⟨_, _, hyl⟩, hys⟩ := brdB_t h3
  have hrb := rcp_pos p a hpr a1 a2
  have hc0 : 0 ≤ lvN p a := Int.emod_nonneg _ (by omega)
  have hc1 : lvN p a < p := Int.emod_lt_of_pos _ (by omega)
  have hb1 := Lib.hid (fun w => baseI_any p a w)
  rw [h1] at hb1
  have hb2 := Lib.hid (fun w hR => isBraidI_any n (some q1) cap xs w hx hR)
  rw [h2] at hb2
  have hb3 := Lib.hid (fun w hR => isBraidI_any n (some q2) cap2 ys w hy hR)
  rw [h3] at hb3
  have hsk := Lib.hid (fun w => skeinI_any p a n w h1)
  have he1 := Lib.hid (fun w hR => beoI_any a (rcp p a) p (lvN p a) n hp hp2 hc0 hc1 n2 n6 (by omega) (by omega) (some q1) cap xs hxl hxs w hR)
  have he2 := Lib.hid (fun w hR => beoI_any a (rcp p a) p (lvN p a) n hp hp2 hc0 hc1 n2 n6 (by omega) (by omega) (some q2) cap2 ys hyl hys w hR)
  have ok1 := brN_ok (c := lvN p a) (a := a) (b := rcp p a) hp hp2 n2 n6 xs hxs xs.length (Nat.le_refl _)
  rw [List.take_length] at ok1
  have ok2 := brN_ok (c := lvN p a) (a := a) (b := rcp p a) hp hp2 n2 n6 ys hys ys.length (Nat.le_refl _)
  rw [List.take_length] at ok2
  have hRx := Lib.hid (fun w' (hb : Below w.heap.size w w') => hR.below hb)
  have hRz := Lib.hid (fun w' (hb : Below w.heap.size w w') => hRy.below hb)
  obtain ⟨c, hc⟩ : ∃ c, lvN p a = c := ⟨_, rfl⟩
  obtain ⟨b, hb⟩ : ∃ b, rcp p a = b := ⟨_, rfl⟩
  unfold skc at hsk
  unfold skv at he1 he2
  rw [hc, hb] at hsk he1 he2 ok1 ok2 ⊢
  obtain ⟨L1, hL1⟩ : ∃ R, brN p c n a b xs = R := ⟨_, rfl⟩
  obtain ⟨L2, hL2⟩ : ∃ R, brN p c n a b ys = R := ⟨_, rfl⟩
  rw [hL1] at he1 ok1
  rw [hL2] at he2 ok2
  rw [hL1, hL2]
  have h16a := good16 ok1.1
  have h16b := good16 ok2.1
  have heq := Lib.hid (fun q1 q2 cap cap' w hA hB => slEq_any q1 q2 cap cap' L1 L2 h16a h16b (by have := ok1.2.2; omega) (by have := ok2.2.2; omega) w hA hB)
  have hr1 := Lib.hid (fun W B q (h : Res W B q L1) => h.rd h16a)
  have hr2 := Lib.hid (fun W B q (h : Res W B q L2) => h.rd h16b)
  obtain ⟨v, hv⟩ : ∃ v, decide (L1 = L2) = v := ⟨_, rfl⟩
  rw [hv] at heq ⊢
  obtain ⟨l1, hl1⟩ : ∃ l, L1.length = l := ⟨_, rfl⟩
  obtain ⟨l2, hl2⟩ : ∃ l, L2.length = l := ⟨_, rfl⟩
  rw [hl1] at he1 heq
  rw [hl2] at he2 heq
  obtain ⟨m1, hm1⟩ : ∃ m, xs.length = m := ⟨_, rfl⟩
  obtain ⟨m2, hm2⟩ : ∃ m, ys.length = m := ⟨_, rfl⟩
  rw [hm1] at he1 hb2 ⊢
  rw [hm2] at he2 hb3 ⊢
  have hfe : ∀ (q : Option Addr) (l cp : Nat) (w : World), (Instr.field 30 (.agg #[.int .i64 p, .int .i64 c, .int .i64 n, .slice q l cp]) 3).run Try.prog w = .ok (.slice q l cp) w := fun q l cp w => by kernel_rfl
  clear h1 h2 h3 hpr hxl hyl hxs hys hrb hc0 hc1 hR hRy hc hb hL1 hL2 hl1 hl2 hm1 hm2 hx hy ok1 ok2 h16a h16b hv
  unfold ecl at *
  go_enter Try.func28, Try.ntmps28
  go_upto_region 4 with (first
    | (go_at_call 44; ((with_reducible refine (hb1.out _).mono ?_); rintro e w1 ⟨rfl, hw⟩; have hw := hw.symm; subst hw))
    | (go_at_call 45; ((with_reducible refine (hb2.out _ (hRx.out _ (Below.refl _ _))).mono ?_); rintro e w1 ⟨rfl, hw⟩; have hw := hw.symm; subst hw))
    | (go_at_call 45; ((with_reducible refine (hb3.out _ (hRz.out _ (Below.refl _ _))).mono ?_); rintro e w1 ⟨rfl, hw⟩; have hw := hw.symm; subst hw))
    | (go_at_call 46; ((with_reducible refine (hsk.out _).mono ?_); rintro e w3 ⟨rfl, hB3⟩))
    | (refine wpList_store_own rfl 71 _ _ rfl _ _ rfl rfl 71 _ (Own.new w3 _ _) (by kernel_rfl) rfl (by simp [Value.oneCell']) ?_; intro w4 oS4 hN4))
  have b4 : Below w.heap.size w w4 := (hB3.alloc hB3.size _).trans (hN4.below.mono hB3.size)
  have oS := oS4
  obtain ⟨g3, hg3⟩ : ∃ g, w3.heap.size = g := ⟨_, rfl⟩
  rw [hg3] at oS ⊢
  clear hg3 hN4 oS4 hB3
  refine wp_region_st (fun x => Own x g3 #[.int .i64 a, .int .i64 b, .int .i64 p, .int .i64 c, .int .i64 n, .slice none 0 0] 71) [(true, 0), (true, 1), (true, 4), (true, 5), (false, 2), (true, 3), (false, 6), (true, 7)] 8 (by kernel_rfl) (by kernel_rfl) (oS.drewN 1) ?_
  have oSd : Own { w4 with drawn := w4.drawn + 1 } g3 #[.int .i64 a, .int .i64 b, .int .i64 p, .int .i64 c, .int .i64 n, .slice none 0 0] 71 := oS
  have bd : Below w.heap.size w { w4 with drawn := w4.drawn + 1 } := b4.drew
  clear oS b4
  generalize ({ w4 with drawn := w4.drawn + 1 } : World) = w5 at *
  simp only [List.map_cons, List.map_nil, opS'_mk, opN_zero, opN_succ, List.drop_succ_cons, List.drop_zero]
  (apply wpSt_read; · (intro wd hS K hK; rw [if_pos (by rfl)]; refine still_load_row 71 (.tmp 12) rfl g3 rfl 71 #[.int .i64 a, .int .i64 b, .int .i64 p, .int .i64 c, .int .i64 n, .slice none 0 0] _ hS Try.underlying71 rfl (by kernel_rfl) ?_; exact hK))
  (apply wpSt_read; · (intro wd hS K hK; clear hS; go_simp; exact hK))
  (apply wpSt_read; · (intro wd hS K hK; rw [if_pos (by rfl)]; refine still_load_row 71 (.tmp 12) rfl g3 rfl 71 #[.int .i64 a, .int .i64 b, .int .i64 p, .int .i64 c, .int .i64 n, .slice none 0 0] _ hS Try.underlying71 rfl (by kernel_rfl) ?_; exact hK))
  (apply wpSt_read; · (intro wd hS K hK; clear hS; go_simp; exact hK))
  refine wpSt_keep (fun K hK => ?_)
  go_wp2_with (first
    | (go_at_call 47; ((with_reducible refine (he1.out w5 (hRx.out _ bd)).mono ?_); rintro e w6 ⟨⟨qa, ca, rfl, ra⟩, hB6⟩)))
  have oS6 := oSd.below hB6 oSd.lt
  have b6 := bd.trans (hB6.mono bd.size)
  have ra6 := ra.weak bd.size
  refine hK _ _ oS6 rfl ?_
  clear hK K oSd hB6 bd ra
  (apply wpSt_read; · (intro wd hS K hK; clear hS; go_simp; exact hK))
  refine wpSt_keep (fun K hK => ?_)
  go_wp2_with (first
    | (go_at_call 47; ((with_reducible refine (he2.out w6 (hRz.out _ b6)).mono ?_); rintro e w7 ⟨⟨qb, cb, rfl, rb⟩, hB7⟩)))
  have oS7 := oS6.below hB7 oS6.lt
  have b7 := b6.trans (hB7.mono b6.size)
  have ra7 := ra6.below hB7 (Nat.le_refl _)
  refine hK _ _ oS7 rfl ?_
  clear hK K oS6 hB7 b6 ra6
  (apply wpSt_read; · (intro wd hS K hK; clear hS; go_simp; exact hK))
  refine wpSt_nil ?_
  go_wp2_with (first
    | (go_at_call 64; ((with_reducible refine (heq.out qa qb ca cb w7 (hr1.out _ _ _ ra7) (hr2.out _ _ _ rb)).mono ?_); rintro e w8 ⟨rfl, hB8⟩; have b8 := b7.trans (hB8.mono b7.size))))
  go_ret2
  exact ⟨rfl, b8⟩
set_option maxRecDepth 100000 in
set_option maxHeartbeats 4000000 in
theorem aebI_bad (p a n : Int) (q1 q2 : Addr) (cap cap2 : Nat) (xs ys : List Int) (hx : xs.length ≤ 1048576) (hy : ys.length ≤ 1048576) (h : (baseB p a && brdB n xs && brdB n ys) = false) (w : World) (hR : Rd w (some q1) xs) (hRy : Rd w (some q2) ys) :
    Calls Try.prog 28 #[.int .i64 p, .int .i64 a, .int .i64 n, .slice (some q1) xs.length cap, .slice (some q2) ys.length cap2] w fun e w' => e = .returned (.tuple #[.bool false, .int .i64 2]) ∧ Below w.heap.size w w' := by
  have hb1 := Lib.hid (fun w => baseI_any p a w)
  have hb2 := Lib.hid (fun w hR => isBraidI_any n (some q1) cap xs w hx hR)
  have hb3 := Lib.hid (fun w hR => isBraidI_any n (some q2) cap2 ys w hy hR)
  have hRx := Lib.hid hR
  have hRz := Lib.hid hRy
  obtain ⟨m1, hm1⟩ : ∃ m, xs.length = m := ⟨_, rfl⟩
  obtain ⟨m2, hm2⟩ : ∃ m, ys.length = m := ⟨_, rfl⟩
  rw [hm1] at hb2 ⊢
  rw [hm2] at hb3 ⊢
  cases hb : baseB p a with
  | false =>
    rw [hb] at hb1
    clear hb h hR hRy hx hy hm1 hm2 hb2 hb3
    go_enter Try.func28, Try.ntmps28
    go_wp2_with (first
      | (go_at_call 44; ((with_reducible refine (hb1.out _).mono ?_); rintro e w1 ⟨rfl, rfl⟩)))
    go_ret2
    exact ⟨rfl, Below.refl _ _⟩
  | true =>
    rw [hb] at hb1 h
    rw [Bool.true_and] at h
    cases hc : brdB n xs with
    | false =>
      rw [hc] at hb2
      clear hb h hR hRy hx hy hm1 hm2 hb3 hc
      go_enter Try.func28, Try.ntmps28
      go_wp2_with (first
        | (go_at_call 44; ((with_reducible refine (hb1.out _).mono ?_); rintro e w1 ⟨rfl, rfl⟩))
        | (go_at_call 45; ((with_reducible refine (hb2.out _ hRx.out).mono ?_); rintro e w2 ⟨rfl, rfl⟩)))
      go_ret2
      exact ⟨rfl, Below.refl _ _⟩
    | true =>
      rw [hc] at hb2 h
      rw [Bool.true_and] at h
      rw [h] at hb3
      clear hb h hR hRy hx hy hm1 hm2 hc
      go_enter Try.func28, Try.ntmps28
      go_wp2_with (first
        | (go_at_call 44; ((with_reducible refine (hb1.out _).mono ?_); rintro e w1 ⟨rfl, rfl⟩))
        | (go_at_call 45; ((with_reducible refine (hb2.out _ hRx.out).mono ?_); rintro e w2 ⟨rfl, rfl⟩))
        | (go_at_call 45; ((with_reducible refine (hb3.out _ hRz.out).mono ?_); rintro e w2 ⟨rfl, rfl⟩)))
      go_ret2
      exact ⟨rfl, Below.refl _ _⟩
set_option maxRecDepth 100000 in
set_option maxHeartbeats 4000000 in
theorem aebS_ok (p a n : Int) (hpw : -9223372036854775808 ≤ p ∧ p ≤ 9223372036854775807) (q1 q2 : Addr) (cap cap2 : Nat) (xs ys : List Int) (hx : xs.length ≤ 1048576) (hy : ys.length ≤ 1048576) (h1 : baseB p a = true) (h2 : brdB n xs = true) (h3 : brdB n ys = true) (w : World) (hR : Rd w (some q1) xs) (hRy : Rd w (some q2) ys) :
    Calls Try.prog 27 #[.int .i64 p, .int .i64 a, .int .i64 n, .slice (some q1) xs.length cap, .slice (some q2) ys.length cap2] w fun e w' => e = .returned (.tuple #[.bool (decide (brN p (lvN p a) n a (rcp p a) xs = brN p (lvN p a) n a (rcp p a) ys)), .int .i64 0]) ∧ Below w.heap.size w w' := by
  obtain ⟨hpr, hp, hp2, a1, a2⟩ := baseB_t h1
  obtain ⟨⟨n2, n6, hxl⟩, hxs⟩ := brdB_t h2
  obtain ⟨⟨_, _, hyl⟩, hys⟩ := brdB_t h3
  have hg := Lib.hid (fun w hR => givS_any p a n (some q1) cap xs w hx hpw hR)
  rw [h1, h2] at hg
  have hb3 := Lib.hid (fun w hR => isBraidS_any n (some q2) cap2 ys w hy hR)
  rw [h3] at hb3
  have he1 := Lib.hid (fun w hR => beoS_any p a n h1 n2 n6 (some q1) cap xs hxl hxs w hR)
  have he2 := Lib.hid (fun w hR => beoS_any p a n h1 n2 n6 (some q2) cap2 ys hyl hys w hR)
  have ok1 := brN_ok (c := lvN p a) (a := a) (b := rcp p a) hp hp2 n2 n6 xs hxs xs.length (Nat.le_refl _)
  rw [List.take_length] at ok1
  have ok2 := brN_ok (c := lvN p a) (a := a) (b := rcp p a) hp hp2 n2 n6 ys hys ys.length (Nat.le_refl _)
  rw [List.take_length] at ok2
  have hRx := Lib.hid hR
  have hRz := Lib.hid (fun w' (hb : Below w.heap.size w w') => hRy.below hb)
  obtain ⟨c, hc⟩ : ∃ c, lvN p a = c := ⟨_, rfl⟩
  obtain ⟨b, hb⟩ : ∃ b, rcp p a = b := ⟨_, rfl⟩
  rw [hc, hb] at he1 he2 ok1 ok2 ⊢
  obtain ⟨L1, hL1⟩ : ∃ R, brN p c n a b xs = R := ⟨_, rfl⟩
  obtain ⟨L2, hL2⟩ : ∃ R, brN p c n a b ys = R := ⟨_, rfl⟩
  rw [hL1] at he1 ok1
  rw [hL2] at he2 ok2
  rw [hL1, hL2]
  have h16a := good16 ok1.1
  have h16b := good16 ok2.1
  have heq := Lib.hid (fun g1 g2 cap cap' w hA hB => sameS_any p c n p c n g1 g2 cap cap' L1 L2 h16a h16b (by have := ok1.2.2; omega) (by have := ok2.2.2; omega) w hA hB)
  have hr1 := Lib.hid (fun W B g (h : MnT W B g L1) => h.rd h16a)
  have hr2 := Lib.hid (fun W B g (h : MnT W B g L2) => h.rd h16b)
  obtain ⟨v, hv⟩ : ∃ v, decide (L1 = L2) = v := ⟨_, rfl⟩
  rw [hv] at heq ⊢
  obtain ⟨l1, hl1⟩ : ∃ l, L1.length = l := ⟨_, rfl⟩
  obtain ⟨l2, hl2⟩ : ∃ l, L2.length = l := ⟨_, rfl⟩
  rw [hl1] at he1 heq
  rw [hl2] at he2 heq
  obtain ⟨m1, hm1⟩ : ∃ m, xs.length = m := ⟨_, rfl⟩
  obtain ⟨m2, hm2⟩ : ∃ m, ys.length = m := ⟨_, rfl⟩
  rw [hm1] at he1 hg ⊢
  rw [hm2] at he2 hb3 ⊢
  clear h1 h2 h3 hpr hxl hyl hxs hys hR hRy hc hb hL1 hL2 hl1 hl2 hm1 hm2 hx hy ok1 ok2 h16a h16b hv hpw
  unfold ecl at *
  go_enter Try.func27, Try.ntmps27
  go_wp2_with (first
    | (go_at_call 42; ((with_reducible refine (hg.out _ hRx.out).mono ?_); rintro e w2 ⟨rfl, rfl⟩))
    | (go_at_call 63; ((with_reducible refine (hb3.out _ (hRz.out _ (Below.refl _ _))).mono ?_); rintro e w2 ⟨rfl, rfl⟩))
    | (go_at_call 43; ((with_reducible refine (he1.out _ hRx.out).mono ?_); rintro e w4 ⟨⟨ga, ca, rfl, ra⟩, hB4⟩))
    | (go_at_call 43; ((with_reducible refine (he2.out w4 (hRz.out _ hB4)).mono ?_); rintro e w5 ⟨⟨gb, cb, rfl, rb⟩, hB5⟩; have b5 := hB4.trans (hB5.mono hB4.size); have ra5 := ra.below hB5 ra.lt))
    | (go_at_call 33; ((with_reducible refine (heq.out _ _ ca cb w5 (hr1.out _ _ _ ra5) (hr2.out _ _ _ rb)).mono ?_); rintro e w6 ⟨rfl, hB6⟩; have b6 := b5.trans (hB6.mono b5.size))))
  go_ret2
  exact ⟨rfl, b6⟩
set_option maxRecDepth 100000 in
set_option maxHeartbeats 4000000 in
theorem aebS_bad (p a n : Int) (hpw : -9223372036854775808 ≤ p ∧ p ≤ 9223372036854775807) (q1 q2 : Addr) (cap cap2 : Nat) (xs ys : List Int) (hx : xs.length ≤ 1048576) (hy : ys.length ≤ 1048576) (h : (baseB p a && brdB n xs && brdB n ys) = false) (w : World) (hR : Rd w (some q1) xs) (hRy : Rd w (some q2) ys) :
    Calls Try.prog 27 #[.int .i64 p, .int .i64 a, .int .i64 n, .slice (some q1) xs.length cap, .slice (some q2) ys.length cap2] w fun e w' => e = .returned (.tuple #[.bool false, .int .i64 2]) ∧ Below w.heap.size w w' := by
  have hg := Lib.hid (fun w hR => givS_any p a n (some q1) cap xs w hx hpw hR)
  have hb3 := Lib.hid (fun w hR => isBraidS_any n (some q2) cap2 ys w hy hR)
  have hRx := Lib.hid hR
  have hRz := Lib.hid hRy
  obtain ⟨m1, hm1⟩ : ∃ m, xs.length = m := ⟨_, rfl⟩
  obtain ⟨m2, hm2⟩ : ∃ m, ys.length = m := ⟨_, rfl⟩
  rw [hm1] at hg ⊢
  rw [hm2] at hb3 ⊢
  cases hb : (baseB p a && brdB n xs) with
  | false =>
    rw [hb] at hg
    clear hb h hR hRy hx hy hm1 hm2 hb3 hpw
    go_enter Try.func27, Try.ntmps27
    go_wp2_with (first
      | (go_at_call 42; ((with_reducible refine (hg.out _ hRx.out).mono ?_); rintro e w2 ⟨rfl, rfl⟩)))
    go_ret2
    exact ⟨rfl, Below.refl _ _⟩
  | true =>
    rw [hb] at hg h
    rw [Bool.true_and] at h
    rw [h] at hb3
    clear hb h hR hRy hx hy hm1 hm2 hpw
    go_enter Try.func27, Try.ntmps27
    go_wp2_with (first
      | (go_at_call 42; ((with_reducible refine (hg.out _ hRx.out).mono ?_); rintro e w2 ⟨rfl, rfl⟩))
      | (go_at_call 63; ((with_reducible refine (hb3.out _ hRz.out).mono ?_); rintro e w2 ⟨rfl, rfl⟩)))
    go_ret2
    exact ⟨rfl, Below.refl _ _⟩
set_option maxRecDepth 100000 in
set_option maxHeartbeats 4000000 in
theorem aeb_walk (p a n : Int) (q1 q2 : Option Addr) (cap cap2 : Nat) (xs ys : List Int) (w : World) (hx : xs.length ≤ 1048576) (hy : ys.length ≤ 1048576) (hR : Rd w q1 xs) (hRy : Rd w q2 ys) (r : Bool) (code : Int)
    (hS0 : ∀ w (a1 a2 : Addr) (cap cap2 : Nat), Rd w (some a1) xs → Rd w (some a2) ys → Calls Try.prog 27 #[.int .i64 p, .int .i64 a, .int .i64 n, .slice (some a1) xs.length cap, .slice (some a2) ys.length cap2] w fun e w' => e = .returned (.tuple #[.bool r, .int .i64 code]) ∧ Below w.heap.size w w')
    (hI0 : ∀ w (a1 a2 : Addr) (cap cap2 : Nat), Rd w (some a1) xs → Rd w (some a2) ys → Calls Try.prog 28 #[.int .i64 p, .int .i64 a, .int .i64 n, .slice (some a1) xs.length cap, .slice (some a2) ys.length cap2] w fun e w' => e = .returned (.tuple #[.bool r, .int .i64 code]) ∧ Below w.heap.size w w') :
    Calls Try.prog 8 #[.int .i64 p, .int .i64 a, .int .i64 n, .slice q1 xs.length cap, .slice q2 ys.length cap2] w fun e w' => e = .returned (.bool true) ∧ Below w.heap.size w w' := by
  have hS := Lib.hid (fun w a1 a2 h h2 => hS0 w a1 a2 xs.length ys.length h h2)
  have hI := Lib.hid (fun w a1 a2 h h2 => hI0 w a1 a2 xs.length ys.length h h2)
  have hc := Lib.hid (fun w hR => toI_any q1 cap xs hx w hR)
  have hd := Lib.hid (fun w hR => toI_any q2 cap2 ys hy w hR)
  have he0 := Lib.hid (fun p q cap cap' w hR hQ => eqI_same p q cap cap' xs (by omega) w hR hQ)
  have hf0 := Lib.hid (fun p q cap cap' w hR hQ => eqI_same p q cap cap' ys (by omega) w hR hQ)
  have hR' := Lib.hid hR
  have hQ' := Lib.hid hRy
  obtain ⟨m1, hm1⟩ : ∃ m, xs.length = m := ⟨_, rfl⟩
  obtain ⟨m2, hm2⟩ : ∃ m, ys.length = m := ⟨_, rfl⟩
  rw [hm1] at hS hI hc he0 hx ⊢
  rw [hm2] at hS hI hd hf0 hy ⊢
  have hx' : ¬ (1048576 : Int) < (m1 : Int) := by omega
  have hy' : ¬ (1048576 : Int) < (m2 : Int) := by omega
  have hcc : (code != code) = false := by simp
  clear hS0 hI0 hm1 hm2 hR hRy
  go_enter Try.func8, Try.ntmps8
  cases r
  all_goals
    go_wp2_with (first
      | (go_at_call 17; ((with_reducible refine (hf0.out _ _ _ _ w9 (Rd.own y9) (Rd.own hO9)).mono ?_); rintro e w10 ⟨rfl, hB10⟩; have b10 := b9.trans (hB10.mono b9.size)))
      | (go_at_call 15; ((with_reducible refine (hd.out w8 (hQ'.out.below b8)).mono ?_); rintro e w9 ⟨rfl, hO9, hB9⟩; have y9 := y8.below hB9 y8.lt; have b9 := b8.trans (hB9.mono b8.size); clear hB9))
      | (go_at_call 17; ((with_reducible refine (he0.out _ _ _ _ w7 (Rd.own x7) (Rd.own hO7)).mono ?_); rintro e w8 ⟨rfl, hB8⟩; have y8 := y7.below hB8 y7.lt; have b8 := b7.trans (hB8.mono b7.size); clear hB8))
      | (go_at_call 15; ((with_reducible refine (hc.out w6 (hR'.out.below b6)).mono ?_); rintro e w7 ⟨rfl, hO7, hB7⟩; have x7 := x6.below hB7 x6.lt; have y7 := y6.below hB7 y6.lt; have b7 := b6.trans (hB7.mono b6.size); clear hB7))
      | (go_at_call 28; ((with_reducible refine (hI.out w5 _ _ (Rd.own x5) (Rd.own y5)).mono ?_); rintro e w6 ⟨rfl, hB6⟩; have x6 := x5.below hB6 x5.lt; have y6 := y5.below hB6 y5.lt; have b6 := b5.trans (hB6.mono b5.size); clear hB6))
      | (go_at_call 15; ((with_reducible refine (hd.out w4 (hQ'.out.below b4)).mono ?_); rintro e w5 ⟨rfl, y5, hB5⟩; have x5 := x4.below hB5 x4.lt; have b5 := b4.trans (hB5.mono b4.size); clear hB5))
      | (go_at_call 15; ((with_reducible refine (hc.out w3 (hR'.out.below b3)).mono ?_); rintro e w4 ⟨rfl, x4, hB4⟩; have b4 := b3.trans (hB4.mono b3.size); clear hB4))
      | (go_at_call 27; ((with_reducible refine (hS.out w2 _ _ (Rd.own x2) (Rd.own y2)).mono ?_); rintro e w3 ⟨rfl, hB3⟩; have b3 := b2.trans (hB3.mono b2.size); clear hB3))
      | (go_at_call 15; ((with_reducible refine (hd.out w1 (hQ'.out.below b1)).mono ?_); rintro e w2 ⟨rfl, y2, hB2⟩; have x2 := x1.below hB2 x1.lt; have b2 := b1.trans (hB2.mono b1.size); clear hB2))
      | (go_at_call 15; ((with_reducible refine (hc.out w hR'.out).mono ?_); rintro e w1 ⟨rfl, x1, b1⟩)))
    go_ret
    exact ⟨rfl, b10⟩
theorem aeb_big1 (p a n : Int) (q1 q2 : Option Addr) (cap cap2 len len2 : Nat) (w : World) (hm : len ≤ maxLen) (h : 1048576 < len) : Calls Try.prog 8 #[.int .i64 p, .int .i64 a, .int .i64 n, .slice q1 len cap, .slice q2 len2 cap2] w fun e w' => e = .returned (.bool true) ∧ Below w.heap.size w w' := by
  unfold maxLen at hm
  have h' : (1048576 : Int) < (len : Int) := by omega
  go_enter Try.func8, Try.ntmps8
  go_wp2
  go_ret
  exact ⟨rfl, Below.refl _ _⟩
theorem aeb_big2 (p a n : Int) (q1 q2 : Option Addr) (cap cap2 len len2 : Nat) (w : World) (h1 : len ≤ 1048576) (hm : len2 ≤ maxLen) (h : 1048576 < len2) : Calls Try.prog 8 #[.int .i64 p, .int .i64 a, .int .i64 n, .slice q1 len cap, .slice q2 len2 cap2] w fun e w' => e = .returned (.bool true) ∧ Below w.heap.size w w' := by
  unfold maxLen at hm
  have h' : (1048576 : Int) < (len2 : Int) := by omega
  have h1' : ¬ (1048576 : Int) < (len : Int) := by omega
  go_enter Try.func8, Try.ntmps8
  go_wp2
  go_ret
  exact ⟨rfl, Below.refl _ _⟩
theorem aeb_law (p a n : Int) (q1 : Option Addr) (cap : Nat) (xs : List Int) (q2 : Option Addr) (cap2 : Nat) (ys : List Int) (hpw : -9223372036854775808 ≤ p ∧ p ≤ 9223372036854775807) (w : World) (hm : xs.length ≤ maxLen) (hR : Rd w q1 xs) (hm2 : ys.length ≤ maxLen) (hRy : Rd w q2 ys) :
    Calls Try.prog 8 #[.int .i64 p, .int .i64 a, .int .i64 n, .slice q1 xs.length cap, .slice q2 ys.length cap2] w fun e w' => e = .returned (.bool true) ∧ Below w.heap.size w w' := by
  by_cases h : xs.length ≤ 1048576
  · by_cases h9 : ys.length ≤ 1048576
    · cases hb : (baseB p a && brdB n xs && brdB n ys) with
      | false => exact aeb_walk p a n q1 q2 cap cap2 xs ys w h h9 hR hRy _ _ (fun w a1 a2 c1 c2 hR hRy => aebS_bad p a n hpw a1 a2 c1 c2 xs ys h h9 hb w hR hRy) (fun w a1 a2 c1 c2 hR hRy => aebI_bad p a n a1 a2 c1 c2 xs ys h h9 hb w hR hRy)
      | true =>
        rw [Bool.and_eq_true, Bool.and_eq_true] at hb
        obtain ⟨⟨h1, h2⟩, h3⟩ := hb
        exact aeb_walk p a n q1 q2 cap cap2 xs ys w h h9 hR hRy _ _ (fun w a1 a2 c1 c2 hR hRy => aebS_ok p a n hpw a1 a2 c1 c2 xs ys h h9 h1 h2 h3 w hR hRy) (fun w a1 a2 c1 c2 hR hRy => aebI_ok p a n a1 a2 c1 c2 xs ys h h9 h1 h2 h3 w hR hRy)
    · exact aeb_big2 p a n q1 q2 cap cap2 xs.length ys.length w h hm2 (by omega)
  · exact aeb_big1 p a n q1 q2 cap cap2 xs.length ys.length w hm (by omega)
end Go.Proofs.Ytbibmncepjmgcaa
