/- SkeinSum: the program. (Written by genskp.py.) -/
import Derived.Test.YtbibmncepjmgcaaSkh
import Derived.Test.YtbibmncepjmgcaaGfr
import Derived.Test.YtbibmncepjmgcaaPhi
import Derived.Test.YtbibmncepjmgcaaBrx
namespace Go.Proofs.Ytbibmncepjmgcaa
open Go.RowKit Go.Lib
set_option linter.unusedVariables false
set_option linter.unusedSimpArgs false
theorem cat3_any (q bq : Addr) (kN m l2 : Nat) (x : Int) (xs : List Int) (hm : xs.length = m) (hk : kN < m) (hl2 : l2 = m - (kN + 1)) (hm2 : m ≤ 24) (g g1 : Nat) (W : World) (hO : Own W g #[.slice (some q) kN m, .slice (some ⟨g1, 0, none⟩) 1 1, .slice (some bq) l2 l2] 34) (hO1 : Own W g1 #[.int .i64 x] 2) (hR : Rd W (some q) xs) (hB : Rd W (some bq) (xs.drop (kN + 1))) :
    Calls Try.prog 60 #[.slice (some ⟨g, 0, none⟩) 3 3] W fun e w' => (∃ p cap, e = .returned (.slice p m cap) ∧ Mn w' W.heap.size p (skw xs kN x)) ∧ Below W.heap.size W w' := by
  have e1 : (xs.take kN).length = kN := by rw [List.length_take]; omega
  have e2 : (xs.drop (kN + 1)).length = l2 := by rw [List.length_drop]; omega
  have ec : catL [((q, m, xs.take kN) : Prt), (⟨g1, 0, none⟩, 1, [x]), (bq, l2, xs.drop (kN + 1))] = skw xs kN x := by simp [catL, skw]
  have ep : prtc [((q, m, xs.take kN) : Prt), (⟨g1, 0, none⟩, 1, [x]), (bq, l2, xs.drop (kN + 1))] = #[.slice (some q) kN m, .slice (some ⟨g1, 0, none⟩) 1 1, .slice (some bq) l2 l2] := by
    simp [prtc, prtV, e2]; omega
  have el : (skw xs kN x).length = m := by rw [skw_len (by omega)]; exact hm
  have h1 : Rd W (some (⟨g1, 0, none⟩ : Addr)) [x] := Rd.own (xs := [x]) hO1
  have := catI_any g 3 [((q, m, xs.take kN) : Prt), (⟨g1, 0, none⟩, 1, [x]), (bq, l2, xs.drop (kN + 1))] W (by rw [ep]; exact hO) (by
    intro z hz
    simp only [List.mem_cons, List.not_mem_nil, or_false] at hz
    rcases hz with rfl | rfl | rfl
    · exact Rd.takeN hR kN
    · exact h1
    · exact hB) (by rw [ec, el]; omega) (by simp)
  rw [ec, el] at this
  exact this
theorem cat2_any (q bq : Addr) (kN m l2 : Nat) (xs : List Int) (hm : xs.length = m) (hk : kN < m) (hl2 : l2 = m - (kN + 1)) (hm2 : m ≤ 24) (g : Nat) (W : World) (hO : Own W g #[.slice (some q) kN m, .slice (some bq) l2 l2] 34) (hR : Rd W (some q) xs) (hB : Rd W (some bq) (xs.drop (kN + 1))) :
    Calls Try.prog 60 #[.slice (some ⟨g, 0, none⟩) 2 2] W fun e w' => (∃ p cap, e = .returned (.slice p (m - 1) cap) ∧ Mn w' W.heap.size p (sk0 xs kN)) ∧ Below W.heap.size W w' := by
  have e1 : (xs.take kN).length = kN := by rw [List.length_take]; omega
  have e2 : (xs.drop (kN + 1)).length = l2 := by rw [List.length_drop]; omega
  have ec : catL [((q, m, xs.take kN) : Prt), (bq, l2, xs.drop (kN + 1))] = sk0 xs kN := by simp [catL, sk0]
  have ep : prtc [((q, m, xs.take kN) : Prt), (bq, l2, xs.drop (kN + 1))] = #[.slice (some q) kN m, .slice (some bq) l2 l2] := by
    simp [prtc, prtV, e2]; omega
  have el : (sk0 xs kN).length = m - 1 := by rw [sk0_len (by omega), hm]
  have := catI_any g 2 [((q, m, xs.take kN) : Prt), (bq, l2, xs.drop (kN + 1))] W (by rw [ep]; exact hO) (by
    intro z hz
    simp only [List.mem_cons, List.not_mem_nil, or_false] at hz
    rcases hz with rfl | rfl
    · exact Rd.takeN hR kN
    · exact hB) (by rw [ec, el]; omega) (by simp)
  rw [ec, el] at this
  exact this
set_option maxRecDepth 100000 in
set_option maxHeartbeats 64000000 in
theorem skI_ok (p a n : Int) (q : Addr) (kN : Nat) (xs : List Int) (hx : xs.length ≤ 1048576) (h1 : baseB p a = true) (h2 : brdB n xs = true) (hkx : kN < xs.length) (w : World) (hR : Rd w (some q) xs) :
    Calls Try.prog 26 #[.int .i64 p, .int .i64 a, .int .i64 n, .slice (some q) xs.length xs.length, .int .i64 (kN : Int)] w fun e w' => e = .returned (.tuple #[.int .i64 (skV p (lvN p a) n a (rcp p a) xs kN), .int .i64 0]) ∧ Below w.heap.size w w' := by
  obtain ⟨hpr, hp, hp2, a1, a2⟩ := baseB_t h1
  obtain ⟨⟨n2, n6, hxl⟩, hxs⟩ := brdB_t h2
  have hrb := rcp_pos p a hpr a1 a2
  have hc0 : 0 ≤ lvN p a := Int.emod_nonneg _ (by omega)
  have hc1 : lvN p a < p := Int.emod_lt_of_pos _ (by omega)
  have hb1 := Lib.hid (fun w => baseI_any p a w)
  rw [h1] at hb1
  have hb2 := Lib.hid (fun w hR => isBraidI_any n (some q) xs.length xs w hx hR)
  rw [h2] at hb2
  have hsk := Lib.hid (fun w => skeinI_any p a n w h1)
  obtain ⟨c, hc⟩ : ∃ c, lvN p a = c := ⟨_, rfl⟩
  obtain ⟨v, hv⟩ : ∃ b, rcp p a = b := ⟨_, rfl⟩
  obtain ⟨u, hu⟩ : ∃ u, a = u := ⟨_, rfl⟩
  unfold skc at hsk
  rw [hc, hv] at hsk ⊢
  rw [hc] at hc0 hc1
  rw [hv] at hrb
  subst hu
  obtain ⟨u, hu⟩ : ∃ u, a = u := ⟨_, rfl⟩
  rw [hu] at hsk hb1 a1 a2 ⊢
  have hxk : xs.getD kN 0 ≠ 0 ∧ -n < xs.getD kN 0 ∧ xs.getD kN 0 < n := hxs _ (by rw [List.getD_eq_getElem?_getD, List.getElem?_eq_getElem hkx]; exact List.getElem_mem _)
  have hV : skV p c n u v xs kN = (pw p u 4 * jnV p c n u v (skw xs kN (max (xs.getD kN 0) (-(xs.getD kN 0)))) - pw p v 4 * jnV p c n u v (skw xs kN (-(max (xs.getD kN 0) (-(xs.getD kN 0))))) + (u * u - v * v) * jnV p c n u v (sk0 xs kN)) % p := rfl
  rw [hV]
  obtain ⟨z, hz⟩ : ∃ z, xs.getD kN 0 = z := ⟨_, rfl⟩
  rw [hz] at hxk ⊢
  obtain ⟨x, hxx⟩ : ∃ x, max z (-z) = x := ⟨_, rfl⟩
  rw [hxx]
  have hxo : x ≠ 0 ∧ -n < x ∧ x < n := by rw [← hxx]; omega
  have hxo2 : -x ≠ 0 ∧ -n < -x ∧ -x < n := by omega
  have hpA := Lib.hid (fun w => (powI_any p u 4 w hp hp2 (by omega) a2 (by omega)).mono fun e w' h => (show e = .returned (.int .i64 (pw p u 4)) ∧ w' = w from ⟨h.1, h.2.symm⟩))
  have hpB := Lib.hid (fun w => (powI_any p v 4 w hp hp2 (by omega) hrb.2 (by omega)).mono fun e w' h => (show e = .returned (.int .i64 (pw p v 4)) ∧ w' = w from ⟨h.1, h.2.symm⟩))
  rw [show ((4 : Nat) : Int) = 4 from rfl] at hpA hpB
  have rA := pw_range p u hp 4
  have rB := pw_range p v hp 4
  obtain ⟨A4, hA4⟩ : ∃ x, pw p u 4 = x := ⟨_, rfl⟩
  obtain ⟨B4, hB4⟩ : ∃ x, pw p v 4 = x := ⟨_, rfl⟩
  rw [hA4] at hpA rA ⊢
  rw [hB4] at hpB rB ⊢
  have saa := bnd_mul p u u 0 hp hp2 (by omega) a2 (by omega) a2
  have sbb := bnd_mul p v v 0 hp hp2 (by omega) hrb.2 (by omega) hrb.2
  obtain ⟨aa, haa⟩ : ∃ x, u * u = x := ⟨_, rfl⟩
  obtain ⟨bb, hbb⟩ : ∃ x, v * v = x := ⟨_, rfl⟩
  rw [haa, hbb]
  rw [haa] at saa
  rw [hbb] at sbb
  obtain ⟨dd, hdd⟩ : ∃ x, aa - bb = x := ⟨_, rfl⟩
  rw [hdd]
  have waa : IntKind.i64.wrap (u * u) = aa := by rw [haa]; exact IntWalk.i64_in _ (by omega)
  have wbb : IntKind.i64.wrap (v * v) = bb := by rw [hbb]; exact IntWalk.i64_in _ (by omega)
  have wdd : IntKind.i64.wrap (aa - bb) = dd := by rw [hdd]; exact IntWalk.i64_in _ (by omega)
  have wB4 : IntKind.i64.wrap (-B4) = -B4 := IntWalk.i64_in _ (by omega)
  have wx : IntKind.i64.wrap (-x) = -x := IntWalk.i64_in _ (by omega)
  have wz : IntKind.i64.wrap (-z) = -z := IntWalk.i64_in _ (by omega)
  obtain ⟨m, hm⟩ : ∃ m, xs.length = m := ⟨_, rfl⟩
  have hkm : kN < m := by omega
  obtain ⟨l2, hl2⟩ : ∃ l, m - (kN + 1) = l := ⟨_, rfl⟩
  obtain ⟨bq, hbq⟩ : ∃ b, bhA q kN m = b := ⟨_, rfl⟩
  have sA := slA q kN m (by omega)
  have sB := slB q kN m hkm
  rw [hl2, hbq] at sB
  have hRx0 := Lib.hid (fun w' (hb : Below w.heap.size w w') => hR.below hb)
  have hBx0 := Lib.hid (fun w' (hb : Below w.heap.size w w') => show Rd w' (some bq) (xs.drop (kN + 1)) from by rw [← hbq]; exact Rd.bh (hR.below hb) kN m hm)
  have hk1 := Lib.hid (fun g g1 W hO hO1 hR hB => cat3_any q bq kN m l2 x xs hm hkm hl2.symm (by omega) g g1 W hO hO1 hR hB)
  have hk2 := Lib.hid (fun g g1 W hO hO1 hR hB => cat3_any q bq kN m l2 (-x) xs hm hkm hl2.symm (by omega) g g1 W hO hO1 hR hB)
  have hk3 := Lib.hid (fun g W hO hR hB => cat2_any q bq kN m l2 xs hm hkm hl2.symm (by omega) g W hO hR hB)
  have lw1 : (skw xs kN x).length = m := by rw [skw_len hkx]; exact hm
  have lw2 : (skw xs kN (-x)).length = m := by rw [skw_len hkx]; exact hm
  have lw3 : (sk0 xs kN).length = m - 1 := by rw [sk0_len hkx, hm]
  have hso := Lib.hid (fun (q1 : Option Addr) (c1 : Nat) (q2 : Option Addr) (c2 : Nat) (q3 : Option Addr) (c3 : Nat) (g98 : Nat) (W : World) (r1 : Rd W q1 (skw xs kN x)) (r2 : Rd W q2 (skw xs kN (-x))) (r3 : Rd W q3 (sk0 xs kN)) (g12 : Nat) (hO : Own W g12 #[.int .i64 u, .int .i64 v, .int .i64 p, .int .i64 c, .int .i64 n, .slice none 0 0] 71) (hV : Own W g98 #[.int .i64 A4, .slice q1 m c1, .int .i64 (-B4), .slice q2 m c2, .int .i64 dd, .slice q3 (m - 1) c3] 83) =>
    sov_any u v p c n hp hp2 hc0 hc1 n2 n6 (by omega) (by omega) (fun k => if k = 0 then A4 else if k = 1 then -B4 else dd) (fun k => by split <;> (try split) <;> omega) (fun k => if k = 0 then q1 else if k = 1 then q2 else q3) (fun k => if k = 0 then c1 else if k = 1 then c2 else c3) (fun k => if k = 0 then skw xs kN x else if k = 1 then skw xs kN (-x) else sk0 xs kN)
      (fun k => by split; · (rw [lw1]; omega)
                   · split; · (rw [lw2]; omega)
                     · (rw [lw3]; omega))
      (fun k => by split; · exact skw_ok hxs kN x hxo
                   · split; · exact skw_ok hxs kN (-x) hxo2
                     · exact sk0_ok hxs kN) g12 g98 W
      (fun k => by split; · exact r1
                   · split; · exact r2
                     · exact r3) hO _ hV (fun k hk j v hv => by
        have hk3 : k = 0 ∨ k = 1 ∨ k = 2 := by omega
        rcases hk3 with rfl | rfl | rfl
        all_goals (
          simp only [if_true, if_false, lw1, lw2, lw3, show (1 : Nat) ≠ 0 from by decide, show (2 : Nat) ≠ 0 from by decide, show (2 : Nat) ≠ 1 from by decide] at hv
          match j, hv with
          | 0, hv => simpa using hv
          | 1, hv => simpa using hv
          | j + 2, hv => simp at hv)))
  have hsum : ∀ f J : Nat → Int, sov f J 3 = f 0 * J 0 + f 1 * J 1 + f 2 * J 2 := fun f J => by simp [sov]
  have hfin : sov (fun k => if k = 0 then A4 else if k = 1 then -B4 else dd) (fun k => jnV p c n u v (if k = 0 then skw xs kN x else if k = 1 then skw xs kN (-x) else sk0 xs kN)) 3 % p = (A4 * jnV p c n u v (skw xs kN x) - B4 * jnV p c n u v (skw xs kN (-x)) + dd * jnV p c n u v (sk0 xs kN)) % p := by
    rw [hsum]
    simp only [if_true, if_false, show (1 : Nat) ≠ 0 from by decide, show (2 : Nat) ≠ 0 from by decide, show (2 : Nat) ≠ 1 from by decide]
    congr 1
    rw [Int.neg_mul]; omega
  rw [hfin] at hso
  obtain ⟨V, hVV⟩ : ∃ V, (A4 * jnV p c n u v (skw xs kN x) - B4 * jnV p c n u v (skw xs kN (-x)) + dd * jnV p c n u v (sk0 xs kN)) % p = V := ⟨_, rfl⟩
  rw [hVV] at hso ⊢
  have hcw := Lib.hid (fun w' (hb : Below w.heap.size w w') => show w'.cell? (q.add kN) = some (.int .i64 z) from by rw [← hz]; exact (hR.below hb).cell q rfl kN hkx)
  rw [hm] at hb2 ⊢
  have k0 : ¬ (kN : Int) < 0 := by omega
  have k1 : ¬ (m : Int) ≤ (kN : Int) := by omega
  have wk : IntKind.i64.wrap ((kN : Int) + 1) = (kN : Int) + 1 := IntWalk.i64_in _ (by omega)
  have hmf : ∀ (fn : Fn) (first cap : Array Value) (w : World), (Instr.makeFunc fn first cap).run Try.prog w = .ok (.func fn first cap) w := fun _ _ _ _ => rfl
  have hzx := Lib.hid (show (z < -z → x = -z) ∧ (¬ z < -z → x = z) from by omega)
  have hkm' : (kN : Int) < (m : Int) := by omega
  clear hV hVV hfin hsum hA4 hB4 haa hbb hdd hl2 hbq hm hz hR h1 h2 hpr hxl hxs hc hv hrb hc0 hc1 hxk hxo hxo2 lw1 lw2 lw3 saa sbb
  go_enter Try.func26, Try.ntmps26
  go_upto_region 4 with (first
    | (go_at_call 44; ((with_reducible refine (hb1.out _).mono ?_); rintro e w1 ⟨rfl, hw⟩; have hw := hw.symm; subst hw))
    | (go_at_call 45; ((with_reducible refine (hb2.out _ (hRx0.out _ (Below.refl _ _))).mono ?_); rintro e w1 ⟨rfl, hw⟩; have hw := hw.symm; subst hw))
    | (go_at_call 46; ((with_reducible refine (hsk.out _).mono ?_); rintro e w3 ⟨rfl, hB3⟩))
    | (refine wpList_store_own rfl 71 _ _ rfl _ _ rfl rfl 71 _ (Own.new w3 _ _) (by kernel_rfl) rfl (by simp [Value.oneCell']) ?_; intro w4 oS4 hN4))
  have b4 : Below w.heap.size w w4 := (hB3.alloc hB3.size _).trans (hN4.below.mono hB3.size)
  obtain ⟨g12, hg12⟩ : ∃ g, w3.heap.size = g := ⟨_, rfl⟩
  rw [hg12] at oS4 ⊢
  clear hg12 hN4 hB3
  refine wp_region_still_lit (by kernel_rfl) (by kernel_rfl) ?_
  iterate 9 still_step
  refine wpStill_nil ?_
  have oS5 : Own { w4 with drawn := w4.drawn + 1 } g12 #[.int .i64 u, .int .i64 v, .int .i64 p, .int .i64 c, .int .i64 n, .slice none 0 0] 71 := oS4
  have b5 : Below w.heap.size w { w4 with drawn := w4.drawn + 1 } := b4.drew
  clear oS4 b4
  generalize ({ w4 with drawn := w4.drawn + 1 } : World) = w5 at *
  have y5 := hcw.out w5 b5
  go_upto_region 5 with fail
  refine wp_region_still_lit (by kernel_rfl) (by kernel_rfl) ?_
  have oS6 : Own { w5 with drawn := w5.drawn + 1 } g12 #[.int .i64 u, .int .i64 v, .int .i64 p, .int .i64 c, .int .i64 n, .slice none 0 0] 71 := oS5
  have b6 : Below w.heap.size w { w5 with drawn := w5.drawn + 1 } := b5.drew
  have y6 : ({ w5 with drawn := w5.drawn + 1 } : World).cell? (q.add kN) = some (.int .i64 z) := y5
  clear oS5 b5 y5
  generalize ({ w5 with drawn := w5.drawn + 1 } : World) = w6 at *
  iterate 11 still_step
  refine wpStill_nil ?_
  clear hxx y6 hzx
  go_upto_region 6 with fail
  obtain ⟨wd, rfl⟩ : ∃ y, y = w6 := ⟨_, rfl⟩
  have oS := oS6
  have bW := b6
  have ltS := oS.lt
  have hRx := Lib.hid (fun w' (hb : Below wd.heap.size wd w') => hRx0.out w' (bW.trans (hb.mono bW.size)))
  have hBx := Lib.hid (fun w' (hb : Below wd.heap.size wd w') => hBx0.out w' (bW.trans (hb.mono bW.size)))
  clear oS6 b6
  refine gen_fr (fun jx => ⟨List.toArray [.int .i64 p, jx 1, jx 2, jx 3, jx 4, jx 5, jx 6, jx 7, jx 8, jx 9, jx 10, jx 11, .pointer (some ⟨g12, 0, none⟩), .slice (some q) kN m, .slice (some bq) l2 l2, .int .i64 x, jx 16, jx 17, jx 18, jx 19, jx 20, jx 21, jx 22, jx 23, jx 24, jx 25, jx 26, jx 27, jx 28, jx 29, jx 30, jx 31, jx 32, jx 33, jx 34, jx 35, jx 36, jx 37, jx 38, jx 39, jx 40, jx 41, jx 42, jx 43, jx 44, jx 45, jx 46, jx 47, jx 48, jx 49, jx 50, jx 51, jx 52, jx 53, jx 54, jx 55, jx 56, jx 57, jx 58, jx 59, jx 60, jx 61, jx 62, jx 63, jx 64, jx 65, jx 66, jx 67, jx 68, jx 69, jx 70, jx 71, jx 72, jx 73, jx 74, jx 75, jx 76, jx 77, jx 78, jx 79, jx 80, jx 81, jx 82, jx 83, jx 84, jx 85, jx 86, jx 87, jx 88, jx 89, jx 90, jx 91, jx 92, jx 93, jx 94, jx 95, jx 96, jx 97, jx 98, jx 99, jx 100, jx 101, jx 102], []⟩) ?_ (by rfl)
  intro jx
  refine wp_region_phi (by kernel_rfl) (by kernel_rfl) (fun j => if j = 41 then 16 else 58 + j) (fun i j h => by have h2 : (if i = 41 then 16 else 58 + i) = (if j = 41 then 16 else 58 + j) := h; split at h2 <;> split at h2 <;> omega) (fun a w' => ∃ x58 x59 x60 x61 x62 x63 x64 x65 x66 x67 x68 x69 x70 x71 x72 x73 x74 x75 x76 x77 x78 x79 x80 x81 x82 x83 x84 x85 x86 x87 x88 x89 x90 x91 x92 x93 x94 x95 x96 x97 x98 x16 : Value, a = ⟨List.toArray [.int .i64 p, jx 1, jx 2, jx 3, jx 4, jx 5, jx 6, jx 7, jx 8, jx 9, jx 10, jx 11, .pointer (some ⟨g12, 0, none⟩), .slice (some q) kN m, .slice (some bq) l2 l2, .int .i64 x, x16, jx 17, jx 18, jx 19, jx 20, jx 21, jx 22, jx 23, jx 24, jx 25, jx 26, jx 27, jx 28, jx 29, jx 30, jx 31, jx 32, jx 33, jx 34, jx 35, jx 36, jx 37, jx 38, jx 39, jx 40, jx 41, jx 42, jx 43, jx 44, jx 45, jx 46, jx 47, jx 48, jx 49, jx 50, jx 51, jx 52, jx 53, jx 54, jx 55, jx 56, jx 57, x58, x59, x60, x61, x62, x63, x64, x65, x66, x67, x68, x69, x70, x71, x72, x73, x74, x75, x76, x77, x78, x79, x80, x81, x82, x83, x84, x85, x86, x87, x88, x89, x90, x91, x92, x93, x94, x95, x96, x97, x98, jx 99, jx 100, jx 101, jx 102], []⟩ ∧ Below wd.heap.size wd w') (fun jF vX w' => match jF with | 0 => vX = .int .i64 p | 1 => vX = .pointer (some ⟨g12, 0, none⟩) | 2 => vX = .int .i64 u | 3 => vX = .int .i64 A4 | 4 => vX = .slice (some q) kN m | 5 => vX = .int .i64 x | 6 => ∃ g : Nat, vX = .slice (some ⟨g, 0, none⟩) 1 1 ∧ wd.heap.size ≤ g ∧ Own w' g #[.int .i64 (x)] 2 | 7 => vX = .slice (some bq) l2 l2 | 8 => ∃ g g1 : Nat, vX = .slice (some ⟨g, 0, none⟩) 3 3 ∧ wd.heap.size ≤ g ∧ Own w' g #[.slice (some q) kN m, .slice (some ⟨g1, 0, none⟩) 1 1, .slice (some bq) l2 l2] 34 ∧ Own w' g1 #[.int .i64 (x)] 2 | 9 => ∃ (q0 : Option Addr) (cp : Nat), vX = .slice q0 m cp ∧ Mn w' wd.heap.size q0 (skw xs kN x) | 10 => ∃ (q0 : Option Addr) (cp : Nat), vX = .agg #[.int .i64 A4, .slice q0 m cp] ∧ Mn w' wd.heap.size q0 (skw xs kN x) | 11 => vX = .int .i64 p | 12 => vX = .pointer (some ⟨g12, 1, none⟩) | 13 => vX = .int .i64 v | 14 => vX = .int .i64 B4 | 15 => vX = .int .i64 (-B4) | 16 => vX = .slice (some q) kN m | 17 => vX = .int .i64 x | 18 => vX = .int .i64 (-x) | 19 => ∃ g : Nat, vX = .slice (some ⟨g, 0, none⟩) 1 1 ∧ wd.heap.size ≤ g ∧ Own w' g #[.int .i64 (-x)] 2 | 20 => vX = .slice (some bq) l2 l2 | 21 => ∃ g g1 : Nat, vX = .slice (some ⟨g, 0, none⟩) 3 3 ∧ wd.heap.size ≤ g ∧ Own w' g #[.slice (some q) kN m, .slice (some ⟨g1, 0, none⟩) 1 1, .slice (some bq) l2 l2] 34 ∧ Own w' g1 #[.int .i64 (-x)] 2 | 22 => ∃ (q0 : Option Addr) (cp : Nat), vX = .slice q0 m cp ∧ Mn w' wd.heap.size q0 (skw xs kN (-x)) | 23 => ∃ (q0 : Option Addr) (cp : Nat), vX = .agg #[.int .i64 (-B4), .slice q0 m cp] ∧ Mn w' wd.heap.size q0 (skw xs kN (-x)) | 24 => vX = .pointer (some ⟨g12, 0, none⟩) | 25 => vX = .int .i64 u | 26 => vX = .pointer (some ⟨g12, 0, none⟩) | 27 => vX = .int .i64 u | 28 => vX = .int .i64 aa | 29 => vX = .pointer (some ⟨g12, 1, none⟩) | 30 => vX = .int .i64 v | 31 => vX = .pointer (some ⟨g12, 1, none⟩) | 32 => vX = .int .i64 v | 33 => vX = .int .i64 bb | 34 => vX = .int .i64 dd | 35 => vX = .slice (some q) kN m | 36 => vX = .slice (some bq) l2 l2 | 37 => ∃ g : Nat, vX = .slice (some ⟨g, 0, none⟩) 2 2 ∧ wd.heap.size ≤ g ∧ Own w' g #[.slice (some q) kN m, .slice (some bq) l2 l2] 34 | 38 => ∃ (q0 : Option Addr) (cp : Nat), vX = .slice q0 (m - 1) cp ∧ Mn w' wd.heap.size q0 (sk0 xs kN) | 39 => ∃ (q0 : Option Addr) (cp : Nat), vX = .agg #[.int .i64 dd, .slice q0 (m - 1) cp] ∧ Mn w' wd.heap.size q0 (sk0 xs kN) | 40 => ∃ (g : Nat) (q1 : Option Addr) (c1 : Nat) (q2 : Option Addr) (c2 : Nat) (q3 : Option Addr) (c3 : Nat), vX = .slice (some ⟨g, 0, none⟩) 3 3 ∧ wd.heap.size ≤ g ∧ Own w' g #[.int .i64 A4, .slice q1 m c1, .int .i64 (-B4), .slice q2 m c2, .int .i64 dd, .slice q3 (m - 1) c3] 83 ∧ Mn w' wd.heap.size q1 (skw xs kN x) ∧ Mn w' wd.heap.size q2 (skw xs kN (-x)) ∧ Mn w' wd.heap.size q3 (sk0 xs kN) | 41 => ∃ (g : Nat) (q1 : Option Addr) (c1 : Nat) (q2 : Option Addr) (c2 : Nat) (q3 : Option Addr) (c3 : Nat), vX = .slice (some ⟨g, 0, none⟩) 3 3 ∧ wd.heap.size ≤ g ∧ Own w' g #[.int .i64 A4, .slice q1 m c1, .int .i64 (-B4), .slice q2 m c2, .int .i64 dd, .slice q3 (m - 1) c3] 83 ∧ Mn w' wd.heap.size q1 (skw xs kN x) ∧ Mn w' wd.heap.size q2 (skw xs kN (-x)) ∧ Mn w' wd.heap.size q3 (sk0 xs kN) | _ => True) ?_ ⟨_, _, _, _, _, _, _, _, _, _, _, _, _, _, _, _, _, _, _, _, _, _, _, _, _, _, _, _, _, _, _, _, _, _, _, _, _, _, _, _, _, _, rfl, (Below.refl _ _).drew⟩ ?_ ?_
  · intro jF vX w0 w2 hB2 h
    match jF, h with
    | 0, h => exact h
    | 1, h => exact h
    | 2, h => exact h
    | 3, h => exact h
    | 4, h => exact h
    | 5, h => exact h
    | 6, h => (obtain ⟨g, e, hg, hO⟩ := h; exact ⟨g, e, hg, hO.below hB2 hO.lt⟩)
    | 7, h => exact h
    | 8, h => (obtain ⟨g, g1, e, hg, hO, hO1⟩ := h; exact ⟨g, g1, e, hg, hO.below hB2 hO.lt, hO1.below hB2 hO1.lt⟩)
    | 9, h => (obtain ⟨q0, cp, e, hM⟩ := h; exact ⟨q0, cp, e, hM.below hB2 (Nat.le_refl _)⟩)
    | 10, h => (obtain ⟨q0, cp, e, hM⟩ := h; exact ⟨q0, cp, e, hM.below hB2 (Nat.le_refl _)⟩)
    | 11, h => exact h
    | 12, h => exact h
    | 13, h => exact h
    | 14, h => exact h
    | 15, h => exact h
    | 16, h => exact h
    | 17, h => exact h
    | 18, h => exact h
    | 19, h => (obtain ⟨g, e, hg, hO⟩ := h; exact ⟨g, e, hg, hO.below hB2 hO.lt⟩)
    | 20, h => exact h
    | 21, h => (obtain ⟨g, g1, e, hg, hO, hO1⟩ := h; exact ⟨g, g1, e, hg, hO.below hB2 hO.lt, hO1.below hB2 hO1.lt⟩)
    | 22, h => (obtain ⟨q0, cp, e, hM⟩ := h; exact ⟨q0, cp, e, hM.below hB2 (Nat.le_refl _)⟩)
    | 23, h => (obtain ⟨q0, cp, e, hM⟩ := h; exact ⟨q0, cp, e, hM.below hB2 (Nat.le_refl _)⟩)
    | 24, h => exact h
    | 25, h => exact h
    | 26, h => exact h
    | 27, h => exact h
    | 28, h => exact h
    | 29, h => exact h
    | 30, h => exact h
    | 31, h => exact h
    | 32, h => exact h
    | 33, h => exact h
    | 34, h => exact h
    | 35, h => exact h
    | 36, h => exact h
    | 37, h => (obtain ⟨g, e, hg, hO⟩ := h; exact ⟨g, e, hg, hO.below hB2 hO.lt⟩)
    | 38, h => (obtain ⟨q0, cp, e, hM⟩ := h; exact ⟨q0, cp, e, hM.below hB2 (Nat.le_refl _)⟩)
    | 39, h => (obtain ⟨q0, cp, e, hM⟩ := h; exact ⟨q0, cp, e, hM.below hB2 (Nat.le_refl _)⟩)
    | 40, h => (obtain ⟨g, q1, c1, q2, c2, q3, c3, e, hg, hO, h1, h2, h3⟩ := h; exact ⟨g, q1, c1, q2, c2, q3, c3, e, hg, hO.below hB2 hO.lt, h1.below hB2 (Nat.le_refl _), h2.below hB2 (Nat.le_refl _), h3.below hB2 (Nat.le_refl _)⟩)
    | 41, h => (obtain ⟨g, q1, c1, q2, c2, q3, c3, e, hg, hO, h1, h2, h3⟩ := h; exact ⟨g, q1, c1, q2, c2, q3, c3, e, hg, hO.below hB2 hO.lt, h1.below hB2 (Nat.le_refl _), h2.below hB2 (Nat.le_refl _), h3.below hB2 (Nat.le_refl _)⟩)
    | jF + 42, h => trivial
  · refine (AllOps.cons ?_ (AllOps.cons ?_ (AllOps.cons ?_ (AllOps.cons ?_ (AllOps.cons ?_ (AllOps.cons ?_ (AllOps.cons ?_ (AllOps.cons ?_ (AllOps.cons ?_ (AllOps.cons ?_ (AllOps.cons ?_ (AllOps.cons ?_ (AllOps.cons ?_ (AllOps.cons ?_ (AllOps.cons ?_ (AllOps.cons ?_ (AllOps.cons ?_ (AllOps.cons ?_ (AllOps.cons ?_ (AllOps.cons ?_ (AllOps.cons ?_ (AllOps.cons ?_ (AllOps.cons ?_ (AllOps.cons ?_ (AllOps.cons ?_ (AllOps.cons ?_ (AllOps.cons ?_ (AllOps.cons ?_ (AllOps.cons ?_ (AllOps.cons ?_ (AllOps.cons ?_ (AllOps.cons ?_ (AllOps.cons ?_ (AllOps.cons ?_ (AllOps.cons ?_ (AllOps.cons ?_ (AllOps.cons ?_ (AllOps.cons ?_ (AllOps.cons ?_ (AllOps.cons ?_ (AllOps.cons ?_ (AllOps.cons ?_ AllOps.nil))))))))))))))))))))))))))))))))))))))))))
    · rintro a w0 ⟨x58, x59, x60, x61, x62, x63, x64, x65, x66, x67, x68, x69, x70, x71, x72, x73, x74, x75, x76, x77, x78, x79, x80, x81, x82, x83, x84, x85, x86, x87, x88, x89, x90, x91, x92, x93, x94, x95, x96, x97, x98, x16, rfl, hB⟩ hd K hK
      clear hd
      go_wp2
      exact hK _ _ ⟨_, _, _, _, _, _, _, _, _, _, _, _, _, _, _, _, _, _, _, _, _, _, _, _, _, _, _, _, _, _, _, _, _, _, _, _, _, _, _, _, _, _, rfl, hB⟩ (rfl) ⟨_, rfl⟩ (Below.refl _ _)
    · rintro a w0 ⟨x58, x59, x60, x61, x62, x63, x64, x65, x66, x67, x68, x69, x70, x71, x72, x73, x74, x75, x76, x77, x78, x79, x80, x81, x82, x83, x84, x85, x86, x87, x88, x89, x90, x91, x92, x93, x94, x95, x96, x97, x98, x16, rfl, hB⟩ hd K hK
      clear hd
      go_wp2
      exact hK _ _ ⟨_, _, _, _, _, _, _, _, _, _, _, _, _, _, _, _, _, _, _, _, _, _, _, _, _, _, _, _, _, _, _, _, _, _, _, _, _, _, _, _, _, _, rfl, hB⟩ (rfl) ⟨_, rfl⟩ (Below.refl _ _)
    · rintro a w0 ⟨x58, x59, x60, x61, x62, x63, x64, x65, x66, x67, x68, x69, x70, x71, x72, x73, x74, x75, x76, x77, x78, x79, x80, x81, x82, x83, x84, x85, x86, x87, x88, x89, x90, x91, x92, x93, x94, x95, x96, x97, x98, x16, rfl, hB⟩ hd K hK
      have d0 : x59 = _ := hd 1 (by kernel_rfl)
      have y0 : w0.cell? ⟨g12, 0, none⟩ = some (.int .i64 u) := (oS.below hB ltS).cell 0
      subst d0
      clear hd
      go_wp2
      exact hK _ _ ⟨_, _, _, _, _, _, _, _, _, _, _, _, _, _, _, _, _, _, _, _, _, _, _, _, _, _, _, _, _, _, _, _, _, _, _, _, _, _, _, _, _, _, rfl, hB⟩ (rfl) ⟨_, rfl⟩ (Below.refl _ _)
    · rintro a w0 ⟨x58, x59, x60, x61, x62, x63, x64, x65, x66, x67, x68, x69, x70, x71, x72, x73, x74, x75, x76, x77, x78, x79, x80, x81, x82, x83, x84, x85, x86, x87, x88, x89, x90, x91, x92, x93, x94, x95, x96, x97, x98, x16, rfl, hB⟩ hd K hK
      have d0 : x58 = _ := hd 0 (by kernel_rfl)
      have d1 : x60 = _ := hd 2 (by kernel_rfl)
      subst d0 d1
      clear hd
      go_wp2_with (first | (go_at_call 59; ((with_reducible refine (hpA.out _).mono ?_); rintro e w5 ⟨rfl, rfl⟩)))
      exact hK _ _ ⟨_, _, _, _, _, _, _, _, _, _, _, _, _, _, _, _, _, _, _, _, _, _, _, _, _, _, _, _, _, _, _, _, _, _, _, _, _, _, _, _, _, _, rfl, hB⟩ (rfl) ⟨_, rfl⟩ (Below.refl _ _)
    · rintro a w0 ⟨x58, x59, x60, x61, x62, x63, x64, x65, x66, x67, x68, x69, x70, x71, x72, x73, x74, x75, x76, x77, x78, x79, x80, x81, x82, x83, x84, x85, x86, x87, x88, x89, x90, x91, x92, x93, x94, x95, x96, x97, x98, x16, rfl, hB⟩ hd K hK
      clear hd
      go_wp2
      exact hK _ _ ⟨_, _, _, _, _, _, _, _, _, _, _, _, _, _, _, _, _, _, _, _, _, _, _, _, _, _, _, _, _, _, _, _, _, _, _, _, _, _, _, _, _, _, rfl, hB⟩ (rfl) ⟨_, rfl⟩ (Below.refl _ _)
    · rintro a w0 ⟨x58, x59, x60, x61, x62, x63, x64, x65, x66, x67, x68, x69, x70, x71, x72, x73, x74, x75, x76, x77, x78, x79, x80, x81, x82, x83, x84, x85, x86, x87, x88, x89, x90, x91, x92, x93, x94, x95, x96, x97, x98, x16, rfl, hB⟩ hd K hK
      clear hd
      go_wp2
      exact hK _ _ ⟨_, _, _, _, _, _, _, _, _, _, _, _, _, _, _, _, _, _, _, _, _, _, _, _, _, _, _, _, _, _, _, _, _, _, _, _, _, _, _, _, _, _, rfl, hB⟩ (rfl) ⟨_, rfl⟩ (Below.refl _ _)
    · rintro a w0 ⟨x58, x59, x60, x61, x62, x63, x64, x65, x66, x67, x68, x69, x70, x71, x72, x73, x74, x75, x76, x77, x78, x79, x80, x81, x82, x83, x84, x85, x86, x87, x88, x89, x90, x91, x92, x93, x94, x95, x96, x97, x98, x16, rfl, hB⟩ hd K hK
      have d0 : x63 = _ := hd 5 (by kernel_rfl)
      have hB2 : Below w0.heap.size w0 (w0.alloc (.cells #[.int .i64 x] 2)) := (Below.refl _ w0).alloc (Nat.le_refl _) _
      subst d0
      clear hd
      go_wp2
      exact hK _ _ ⟨_, _, _, _, _, _, _, _, _, _, _, _, _, _, _, _, _, _, _, _, _, _, _, _, _, _, _, _, _, _, _, _, _, _, _, _, _, _, _, _, _, _, rfl, hB.alloc hB.size _⟩ (⟨_, rfl, hB.size, Own.new _ _ _⟩) ⟨_, rfl⟩ (hB2)
    · rintro a w0 ⟨x58, x59, x60, x61, x62, x63, x64, x65, x66, x67, x68, x69, x70, x71, x72, x73, x74, x75, x76, x77, x78, x79, x80, x81, x82, x83, x84, x85, x86, x87, x88, x89, x90, x91, x92, x93, x94, x95, x96, x97, x98, x16, rfl, hB⟩ hd K hK
      clear hd
      go_wp2
      exact hK _ _ ⟨_, _, _, _, _, _, _, _, _, _, _, _, _, _, _, _, _, _, _, _, _, _, _, _, _, _, _, _, _, _, _, _, _, _, _, _, _, _, _, _, _, _, rfl, hB⟩ (rfl) ⟨_, rfl⟩ (Below.refl _ _)
    · rintro a w0 ⟨x58, x59, x60, x61, x62, x63, x64, x65, x66, x67, x68, x69, x70, x71, x72, x73, x74, x75, x76, x77, x78, x79, x80, x81, x82, x83, x84, x85, x86, x87, x88, x89, x90, x91, x92, x93, x94, x95, x96, x97, x98, x16, rfl, hB⟩ hd K hK
      have d0 : x62 = _ := hd 4 (by kernel_rfl)
      have d1 : x65 = _ := hd 7 (by kernel_rfl)
      obtain ⟨g1, e64, h64, hO64⟩ := hd 6 (by kernel_rfl)
      have e64 : x64 = _ := e64
      subst e64
      have hB2 : Below w0.heap.size w0 (w0.alloc (.cells #[.slice (some q) kN m, .slice (some ⟨g1, 0, none⟩) 1 1, .slice (some bq) l2 l2] 34)) := (Below.refl _ w0).alloc (Nat.le_refl _) _
      subst d0 d1
      clear hd
      go_wp2
      exact hK _ _ ⟨_, _, _, _, _, _, _, _, _, _, _, _, _, _, _, _, _, _, _, _, _, _, _, _, _, _, _, _, _, _, _, _, _, _, _, _, _, _, _, _, _, _, rfl, hB.alloc hB.size _⟩ (⟨_, g1, rfl, hB.size, Own.new _ _ _, hO64.alloc _⟩) ⟨_, rfl⟩ (hB2)
    · rintro a w0 ⟨x58, x59, x60, x61, x62, x63, x64, x65, x66, x67, x68, x69, x70, x71, x72, x73, x74, x75, x76, x77, x78, x79, x80, x81, x82, x83, x84, x85, x86, x87, x88, x89, x90, x91, x92, x93, x94, x95, x96, x97, x98, x16, rfl, hB⟩ hd K hK
      obtain ⟨g, g1, e66, h66, hO66, hP66⟩ := hd 8 (by kernel_rfl)
      have e66 : x66 = _ := e66
      subst e66
      clear hd
      go_wp2_with (first | (go_at_call 60; ((with_reducible refine (hk1.out g g1 w0 hO66 hP66 (hRx.out _ hB) (hBx.out _ hB)).mono ?_); rintro e w2 ⟨⟨q0, cp0, rfl, hM0⟩, hB2⟩)))
      exact hK _ _ ⟨_, _, _, _, _, _, _, _, _, _, _, _, _, _, _, _, _, _, _, _, _, _, _, _, _, _, _, _, _, _, _, _, _, _, _, _, _, _, _, _, _, _, rfl, hB.trans (hB2.mono hB.size)⟩ (⟨q0, cp0, rfl, hM0.weak hB.size⟩) ⟨_, rfl⟩ (hB2)
    · rintro a w0 ⟨x58, x59, x60, x61, x62, x63, x64, x65, x66, x67, x68, x69, x70, x71, x72, x73, x74, x75, x76, x77, x78, x79, x80, x81, x82, x83, x84, x85, x86, x87, x88, x89, x90, x91, x92, x93, x94, x95, x96, x97, x98, x16, rfl, hB⟩ hd K hK
      have d0 : x61 = _ := hd 3 (by kernel_rfl)
      obtain ⟨q67, cp67, e67, hM67⟩ := hd 9 (by kernel_rfl)
      have e67 : x67 = _ := e67
      subst e67
      subst d0
      clear hd
      go_wp2
      exact hK _ _ ⟨_, _, _, _, _, _, _, _, _, _, _, _, _, _, _, _, _, _, _, _, _, _, _, _, _, _, _, _, _, _, _, _, _, _, _, _, _, _, _, _, _, _, rfl, hB⟩ (⟨q67, cp67, rfl, hM67⟩) ⟨_, rfl⟩ (Below.refl _ _)
    · rintro a w0 ⟨x58, x59, x60, x61, x62, x63, x64, x65, x66, x67, x68, x69, x70, x71, x72, x73, x74, x75, x76, x77, x78, x79, x80, x81, x82, x83, x84, x85, x86, x87, x88, x89, x90, x91, x92, x93, x94, x95, x96, x97, x98, x16, rfl, hB⟩ hd K hK
      clear hd
      go_wp2
      exact hK _ _ ⟨_, _, _, _, _, _, _, _, _, _, _, _, _, _, _, _, _, _, _, _, _, _, _, _, _, _, _, _, _, _, _, _, _, _, _, _, _, _, _, _, _, _, rfl, hB⟩ (rfl) ⟨_, rfl⟩ (Below.refl _ _)
    · rintro a w0 ⟨x58, x59, x60, x61, x62, x63, x64, x65, x66, x67, x68, x69, x70, x71, x72, x73, x74, x75, x76, x77, x78, x79, x80, x81, x82, x83, x84, x85, x86, x87, x88, x89, x90, x91, x92, x93, x94, x95, x96, x97, x98, x16, rfl, hB⟩ hd K hK
      clear hd
      go_wp2
      exact hK _ _ ⟨_, _, _, _, _, _, _, _, _, _, _, _, _, _, _, _, _, _, _, _, _, _, _, _, _, _, _, _, _, _, _, _, _, _, _, _, _, _, _, _, _, _, rfl, hB⟩ (rfl) ⟨_, rfl⟩ (Below.refl _ _)
    · rintro a w0 ⟨x58, x59, x60, x61, x62, x63, x64, x65, x66, x67, x68, x69, x70, x71, x72, x73, x74, x75, x76, x77, x78, x79, x80, x81, x82, x83, x84, x85, x86, x87, x88, x89, x90, x91, x92, x93, x94, x95, x96, x97, x98, x16, rfl, hB⟩ hd K hK
      have d0 : x70 = _ := hd 12 (by kernel_rfl)
      have y1 : w0.cell? ⟨g12, 1, none⟩ = some (.int .i64 v) := (oS.below hB ltS).cell 1
      subst d0
      clear hd
      go_wp2
      exact hK _ _ ⟨_, _, _, _, _, _, _, _, _, _, _, _, _, _, _, _, _, _, _, _, _, _, _, _, _, _, _, _, _, _, _, _, _, _, _, _, _, _, _, _, _, _, rfl, hB⟩ (rfl) ⟨_, rfl⟩ (Below.refl _ _)
    · rintro a w0 ⟨x58, x59, x60, x61, x62, x63, x64, x65, x66, x67, x68, x69, x70, x71, x72, x73, x74, x75, x76, x77, x78, x79, x80, x81, x82, x83, x84, x85, x86, x87, x88, x89, x90, x91, x92, x93, x94, x95, x96, x97, x98, x16, rfl, hB⟩ hd K hK
      have d0 : x69 = _ := hd 11 (by kernel_rfl)
      have d1 : x71 = _ := hd 13 (by kernel_rfl)
      subst d0 d1
      clear hd
      go_wp2_with (first | (go_at_call 59; ((with_reducible refine (hpB.out _).mono ?_); rintro e w5 ⟨rfl, rfl⟩)))
      exact hK _ _ ⟨_, _, _, _, _, _, _, _, _, _, _, _, _, _, _, _, _, _, _, _, _, _, _, _, _, _, _, _, _, _, _, _, _, _, _, _, _, _, _, _, _, _, rfl, hB⟩ (rfl) ⟨_, rfl⟩ (Below.refl _ _)
    · rintro a w0 ⟨x58, x59, x60, x61, x62, x63, x64, x65, x66, x67, x68, x69, x70, x71, x72, x73, x74, x75, x76, x77, x78, x79, x80, x81, x82, x83, x84, x85, x86, x87, x88, x89, x90, x91, x92, x93, x94, x95, x96, x97, x98, x16, rfl, hB⟩ hd K hK
      have d0 : x72 = _ := hd 14 (by kernel_rfl)
      subst d0
      clear hd
      go_wp2
      exact hK _ _ ⟨_, _, _, _, _, _, _, _, _, _, _, _, _, _, _, _, _, _, _, _, _, _, _, _, _, _, _, _, _, _, _, _, _, _, _, _, _, _, _, _, _, _, rfl, hB⟩ (rfl) ⟨_, rfl⟩ (Below.refl _ _)
    · rintro a w0 ⟨x58, x59, x60, x61, x62, x63, x64, x65, x66, x67, x68, x69, x70, x71, x72, x73, x74, x75, x76, x77, x78, x79, x80, x81, x82, x83, x84, x85, x86, x87, x88, x89, x90, x91, x92, x93, x94, x95, x96, x97, x98, x16, rfl, hB⟩ hd K hK
      clear hd
      go_wp2
      exact hK _ _ ⟨_, _, _, _, _, _, _, _, _, _, _, _, _, _, _, _, _, _, _, _, _, _, _, _, _, _, _, _, _, _, _, _, _, _, _, _, _, _, _, _, _, _, rfl, hB⟩ (rfl) ⟨_, rfl⟩ (Below.refl _ _)
    · rintro a w0 ⟨x58, x59, x60, x61, x62, x63, x64, x65, x66, x67, x68, x69, x70, x71, x72, x73, x74, x75, x76, x77, x78, x79, x80, x81, x82, x83, x84, x85, x86, x87, x88, x89, x90, x91, x92, x93, x94, x95, x96, x97, x98, x16, rfl, hB⟩ hd K hK
      clear hd
      go_wp2
      exact hK _ _ ⟨_, _, _, _, _, _, _, _, _, _, _, _, _, _, _, _, _, _, _, _, _, _, _, _, _, _, _, _, _, _, _, _, _, _, _, _, _, _, _, _, _, _, rfl, hB⟩ (rfl) ⟨_, rfl⟩ (Below.refl _ _)
    · rintro a w0 ⟨x58, x59, x60, x61, x62, x63, x64, x65, x66, x67, x68, x69, x70, x71, x72, x73, x74, x75, x76, x77, x78, x79, x80, x81, x82, x83, x84, x85, x86, x87, x88, x89, x90, x91, x92, x93, x94, x95, x96, x97, x98, x16, rfl, hB⟩ hd K hK
      have d0 : x75 = _ := hd 17 (by kernel_rfl)
      subst d0
      clear hd
      go_wp2
      exact hK _ _ ⟨_, _, _, _, _, _, _, _, _, _, _, _, _, _, _, _, _, _, _, _, _, _, _, _, _, _, _, _, _, _, _, _, _, _, _, _, _, _, _, _, _, _, rfl, hB⟩ (rfl) ⟨_, rfl⟩ (Below.refl _ _)
    · rintro a w0 ⟨x58, x59, x60, x61, x62, x63, x64, x65, x66, x67, x68, x69, x70, x71, x72, x73, x74, x75, x76, x77, x78, x79, x80, x81, x82, x83, x84, x85, x86, x87, x88, x89, x90, x91, x92, x93, x94, x95, x96, x97, x98, x16, rfl, hB⟩ hd K hK
      have d0 : x76 = _ := hd 18 (by kernel_rfl)
      have hB2 : Below w0.heap.size w0 (w0.alloc (.cells #[.int .i64 (-x)] 2)) := (Below.refl _ w0).alloc (Nat.le_refl _) _
      subst d0
      clear hd
      go_wp2
      exact hK _ _ ⟨_, _, _, _, _, _, _, _, _, _, _, _, _, _, _, _, _, _, _, _, _, _, _, _, _, _, _, _, _, _, _, _, _, _, _, _, _, _, _, _, _, _, rfl, hB.alloc hB.size _⟩ (⟨_, rfl, hB.size, Own.new _ _ _⟩) ⟨_, rfl⟩ (hB2)
    · rintro a w0 ⟨x58, x59, x60, x61, x62, x63, x64, x65, x66, x67, x68, x69, x70, x71, x72, x73, x74, x75, x76, x77, x78, x79, x80, x81, x82, x83, x84, x85, x86, x87, x88, x89, x90, x91, x92, x93, x94, x95, x96, x97, x98, x16, rfl, hB⟩ hd K hK
      clear hd
      go_wp2
      exact hK _ _ ⟨_, _, _, _, _, _, _, _, _, _, _, _, _, _, _, _, _, _, _, _, _, _, _, _, _, _, _, _, _, _, _, _, _, _, _, _, _, _, _, _, _, _, rfl, hB⟩ (rfl) ⟨_, rfl⟩ (Below.refl _ _)
    · rintro a w0 ⟨x58, x59, x60, x61, x62, x63, x64, x65, x66, x67, x68, x69, x70, x71, x72, x73, x74, x75, x76, x77, x78, x79, x80, x81, x82, x83, x84, x85, x86, x87, x88, x89, x90, x91, x92, x93, x94, x95, x96, x97, x98, x16, rfl, hB⟩ hd K hK
      have d0 : x74 = _ := hd 16 (by kernel_rfl)
      have d1 : x78 = _ := hd 20 (by kernel_rfl)
      obtain ⟨g1, e77, h77, hO77⟩ := hd 19 (by kernel_rfl)
      have e77 : x77 = _ := e77
      subst e77
      have hB2 : Below w0.heap.size w0 (w0.alloc (.cells #[.slice (some q) kN m, .slice (some ⟨g1, 0, none⟩) 1 1, .slice (some bq) l2 l2] 34)) := (Below.refl _ w0).alloc (Nat.le_refl _) _
      subst d0 d1
      clear hd
      go_wp2
      exact hK _ _ ⟨_, _, _, _, _, _, _, _, _, _, _, _, _, _, _, _, _, _, _, _, _, _, _, _, _, _, _, _, _, _, _, _, _, _, _, _, _, _, _, _, _, _, rfl, hB.alloc hB.size _⟩ (⟨_, g1, rfl, hB.size, Own.new _ _ _, hO77.alloc _⟩) ⟨_, rfl⟩ (hB2)
    · rintro a w0 ⟨x58, x59, x60, x61, x62, x63, x64, x65, x66, x67, x68, x69, x70, x71, x72, x73, x74, x75, x76, x77, x78, x79, x80, x81, x82, x83, x84, x85, x86, x87, x88, x89, x90, x91, x92, x93, x94, x95, x96, x97, x98, x16, rfl, hB⟩ hd K hK
      obtain ⟨g, g1, e79, h79, hO79, hP79⟩ := hd 21 (by kernel_rfl)
      have e79 : x79 = _ := e79
      subst e79
      clear hd
      go_wp2_with (first | (go_at_call 60; ((with_reducible refine (hk2.out g g1 w0 hO79 hP79 (hRx.out _ hB) (hBx.out _ hB)).mono ?_); rintro e w2 ⟨⟨q0, cp0, rfl, hM0⟩, hB2⟩)))
      exact hK _ _ ⟨_, _, _, _, _, _, _, _, _, _, _, _, _, _, _, _, _, _, _, _, _, _, _, _, _, _, _, _, _, _, _, _, _, _, _, _, _, _, _, _, _, _, rfl, hB.trans (hB2.mono hB.size)⟩ (⟨q0, cp0, rfl, hM0.weak hB.size⟩) ⟨_, rfl⟩ (hB2)
    · rintro a w0 ⟨x58, x59, x60, x61, x62, x63, x64, x65, x66, x67, x68, x69, x70, x71, x72, x73, x74, x75, x76, x77, x78, x79, x80, x81, x82, x83, x84, x85, x86, x87, x88, x89, x90, x91, x92, x93, x94, x95, x96, x97, x98, x16, rfl, hB⟩ hd K hK
      have d0 : x73 = _ := hd 15 (by kernel_rfl)
      obtain ⟨q80, cp80, e80, hM80⟩ := hd 22 (by kernel_rfl)
      have e80 : x80 = _ := e80
      subst e80
      subst d0
      clear hd
      go_wp2
      exact hK _ _ ⟨_, _, _, _, _, _, _, _, _, _, _, _, _, _, _, _, _, _, _, _, _, _, _, _, _, _, _, _, _, _, _, _, _, _, _, _, _, _, _, _, _, _, rfl, hB⟩ (⟨q80, cp80, rfl, hM80⟩) ⟨_, rfl⟩ (Below.refl _ _)
    · rintro a w0 ⟨x58, x59, x60, x61, x62, x63, x64, x65, x66, x67, x68, x69, x70, x71, x72, x73, x74, x75, x76, x77, x78, x79, x80, x81, x82, x83, x84, x85, x86, x87, x88, x89, x90, x91, x92, x93, x94, x95, x96, x97, x98, x16, rfl, hB⟩ hd K hK
      clear hd
      go_wp2
      exact hK _ _ ⟨_, _, _, _, _, _, _, _, _, _, _, _, _, _, _, _, _, _, _, _, _, _, _, _, _, _, _, _, _, _, _, _, _, _, _, _, _, _, _, _, _, _, rfl, hB⟩ (rfl) ⟨_, rfl⟩ (Below.refl _ _)
    · rintro a w0 ⟨x58, x59, x60, x61, x62, x63, x64, x65, x66, x67, x68, x69, x70, x71, x72, x73, x74, x75, x76, x77, x78, x79, x80, x81, x82, x83, x84, x85, x86, x87, x88, x89, x90, x91, x92, x93, x94, x95, x96, x97, x98, x16, rfl, hB⟩ hd K hK
      have d0 : x82 = _ := hd 24 (by kernel_rfl)
      have y0 : w0.cell? ⟨g12, 0, none⟩ = some (.int .i64 u) := (oS.below hB ltS).cell 0
      subst d0
      clear hd
      go_wp2
      exact hK _ _ ⟨_, _, _, _, _, _, _, _, _, _, _, _, _, _, _, _, _, _, _, _, _, _, _, _, _, _, _, _, _, _, _, _, _, _, _, _, _, _, _, _, _, _, rfl, hB⟩ (rfl) ⟨_, rfl⟩ (Below.refl _ _)
    · rintro a w0 ⟨x58, x59, x60, x61, x62, x63, x64, x65, x66, x67, x68, x69, x70, x71, x72, x73, x74, x75, x76, x77, x78, x79, x80, x81, x82, x83, x84, x85, x86, x87, x88, x89, x90, x91, x92, x93, x94, x95, x96, x97, x98, x16, rfl, hB⟩ hd K hK
      clear hd
      go_wp2
      exact hK _ _ ⟨_, _, _, _, _, _, _, _, _, _, _, _, _, _, _, _, _, _, _, _, _, _, _, _, _, _, _, _, _, _, _, _, _, _, _, _, _, _, _, _, _, _, rfl, hB⟩ (rfl) ⟨_, rfl⟩ (Below.refl _ _)
    · rintro a w0 ⟨x58, x59, x60, x61, x62, x63, x64, x65, x66, x67, x68, x69, x70, x71, x72, x73, x74, x75, x76, x77, x78, x79, x80, x81, x82, x83, x84, x85, x86, x87, x88, x89, x90, x91, x92, x93, x94, x95, x96, x97, x98, x16, rfl, hB⟩ hd K hK
      have d0 : x84 = _ := hd 26 (by kernel_rfl)
      have y0 : w0.cell? ⟨g12, 0, none⟩ = some (.int .i64 u) := (oS.below hB ltS).cell 0
      subst d0
      clear hd
      go_wp2
      exact hK _ _ ⟨_, _, _, _, _, _, _, _, _, _, _, _, _, _, _, _, _, _, _, _, _, _, _, _, _, _, _, _, _, _, _, _, _, _, _, _, _, _, _, _, _, _, rfl, hB⟩ (rfl) ⟨_, rfl⟩ (Below.refl _ _)
    · rintro a w0 ⟨x58, x59, x60, x61, x62, x63, x64, x65, x66, x67, x68, x69, x70, x71, x72, x73, x74, x75, x76, x77, x78, x79, x80, x81, x82, x83, x84, x85, x86, x87, x88, x89, x90, x91, x92, x93, x94, x95, x96, x97, x98, x16, rfl, hB⟩ hd K hK
      have d0 : x83 = _ := hd 25 (by kernel_rfl)
      have d1 : x85 = _ := hd 27 (by kernel_rfl)
      subst d0 d1
      clear hd
      go_wp2
      exact hK _ _ ⟨_, _, _, _, _, _, _, _, _, _, _, _, _, _, _, _, _, _, _, _, _, _, _, _, _, _, _, _, _, _, _, _, _, _, _, _, _, _, _, _, _, _, rfl, hB⟩ (rfl) ⟨_, rfl⟩ (Below.refl _ _)
    · rintro a w0 ⟨x58, x59, x60, x61, x62, x63, x64, x65, x66, x67, x68, x69, x70, x71, x72, x73, x74, x75, x76, x77, x78, x79, x80, x81, x82, x83, x84, x85, x86, x87, x88, x89, x90, x91, x92, x93, x94, x95, x96, x97, x98, x16, rfl, hB⟩ hd K hK
      clear hd
      go_wp2
      exact hK _ _ ⟨_, _, _, _, _, _, _, _, _, _, _, _, _, _, _, _, _, _, _, _, _, _, _, _, _, _, _, _, _, _, _, _, _, _, _, _, _, _, _, _, _, _, rfl, hB⟩ (rfl) ⟨_, rfl⟩ (Below.refl _ _)
    · rintro a w0 ⟨x58, x59, x60, x61, x62, x63, x64, x65, x66, x67, x68, x69, x70, x71, x72, x73, x74, x75, x76, x77, x78, x79, x80, x81, x82, x83, x84, x85, x86, x87, x88, x89, x90, x91, x92, x93, x94, x95, x96, x97, x98, x16, rfl, hB⟩ hd K hK
      have d0 : x87 = _ := hd 29 (by kernel_rfl)
      have y1 : w0.cell? ⟨g12, 1, none⟩ = some (.int .i64 v) := (oS.below hB ltS).cell 1
      subst d0
      clear hd
      go_wp2
      exact hK _ _ ⟨_, _, _, _, _, _, _, _, _, _, _, _, _, _, _, _, _, _, _, _, _, _, _, _, _, _, _, _, _, _, _, _, _, _, _, _, _, _, _, _, _, _, rfl, hB⟩ (rfl) ⟨_, rfl⟩ (Below.refl _ _)
    · rintro a w0 ⟨x58, x59, x60, x61, x62, x63, x64, x65, x66, x67, x68, x69, x70, x71, x72, x73, x74, x75, x76, x77, x78, x79, x80, x81, x82, x83, x84, x85, x86, x87, x88, x89, x90, x91, x92, x93, x94, x95, x96, x97, x98, x16, rfl, hB⟩ hd K hK
      clear hd
      go_wp2
      exact hK _ _ ⟨_, _, _, _, _, _, _, _, _, _, _, _, _, _, _, _, _, _, _, _, _, _, _, _, _, _, _, _, _, _, _, _, _, _, _, _, _, _, _, _, _, _, rfl, hB⟩ (rfl) ⟨_, rfl⟩ (Below.refl _ _)
    · rintro a w0 ⟨x58, x59, x60, x61, x62, x63, x64, x65, x66, x67, x68, x69, x70, x71, x72, x73, x74, x75, x76, x77, x78, x79, x80, x81, x82, x83, x84, x85, x86, x87, x88, x89, x90, x91, x92, x93, x94, x95, x96, x97, x98, x16, rfl, hB⟩ hd K hK
      have d0 : x89 = _ := hd 31 (by kernel_rfl)
      have y1 : w0.cell? ⟨g12, 1, none⟩ = some (.int .i64 v) := (oS.below hB ltS).cell 1
      subst d0
      clear hd
      go_wp2
      exact hK _ _ ⟨_, _, _, _, _, _, _, _, _, _, _, _, _, _, _, _, _, _, _, _, _, _, _, _, _, _, _, _, _, _, _, _, _, _, _, _, _, _, _, _, _, _, rfl, hB⟩ (rfl) ⟨_, rfl⟩ (Below.refl _ _)
    · rintro a w0 ⟨x58, x59, x60, x61, x62, x63, x64, x65, x66, x67, x68, x69, x70, x71, x72, x73, x74, x75, x76, x77, x78, x79, x80, x81, x82, x83, x84, x85, x86, x87, x88, x89, x90, x91, x92, x93, x94, x95, x96, x97, x98, x16, rfl, hB⟩ hd K hK
      have d0 : x88 = _ := hd 30 (by kernel_rfl)
      have d1 : x90 = _ := hd 32 (by kernel_rfl)
      subst d0 d1
      clear hd
      go_wp2
      exact hK _ _ ⟨_, _, _, _, _, _, _, _, _, _, _, _, _, _, _, _, _, _, _, _, _, _, _, _, _, _, _, _, _, _, _, _, _, _, _, _, _, _, _, _, _, _, rfl, hB⟩ (rfl) ⟨_, rfl⟩ (Below.refl _ _)
    · rintro a w0 ⟨x58, x59, x60, x61, x62, x63, x64, x65, x66, x67, x68, x69, x70, x71, x72, x73, x74, x75, x76, x77, x78, x79, x80, x81, x82, x83, x84, x85, x86, x87, x88, x89, x90, x91, x92, x93, x94, x95, x96, x97, x98, x16, rfl, hB⟩ hd K hK
      have d0 : x86 = _ := hd 28 (by kernel_rfl)
      have d1 : x91 = _ := hd 33 (by kernel_rfl)
      subst d0 d1
      clear hd
      go_wp2
      exact hK _ _ ⟨_, _, _, _, _, _, _, _, _, _, _, _, _, _, _, _, _, _, _, _, _, _, _, _, _, _, _, _, _, _, _, _, _, _, _, _, _, _, _, _, _, _, rfl, hB⟩ (rfl) ⟨_, rfl⟩ (Below.refl _ _)
    · rintro a w0 ⟨x58, x59, x60, x61, x62, x63, x64, x65, x66, x67, x68, x69, x70, x71, x72, x73, x74, x75, x76, x77, x78, x79, x80, x81, x82, x83, x84, x85, x86, x87, x88, x89, x90, x91, x92, x93, x94, x95, x96, x97, x98, x16, rfl, hB⟩ hd K hK
      clear hd
      go_wp2
      exact hK _ _ ⟨_, _, _, _, _, _, _, _, _, _, _, _, _, _, _, _, _, _, _, _, _, _, _, _, _, _, _, _, _, _, _, _, _, _, _, _, _, _, _, _, _, _, rfl, hB⟩ (rfl) ⟨_, rfl⟩ (Below.refl _ _)
    · rintro a w0 ⟨x58, x59, x60, x61, x62, x63, x64, x65, x66, x67, x68, x69, x70, x71, x72, x73, x74, x75, x76, x77, x78, x79, x80, x81, x82, x83, x84, x85, x86, x87, x88, x89, x90, x91, x92, x93, x94, x95, x96, x97, x98, x16, rfl, hB⟩ hd K hK
      clear hd
      go_wp2
      exact hK _ _ ⟨_, _, _, _, _, _, _, _, _, _, _, _, _, _, _, _, _, _, _, _, _, _, _, _, _, _, _, _, _, _, _, _, _, _, _, _, _, _, _, _, _, _, rfl, hB⟩ (rfl) ⟨_, rfl⟩ (Below.refl _ _)
    · rintro a w0 ⟨x58, x59, x60, x61, x62, x63, x64, x65, x66, x67, x68, x69, x70, x71, x72, x73, x74, x75, x76, x77, x78, x79, x80, x81, x82, x83, x84, x85, x86, x87, x88, x89, x90, x91, x92, x93, x94, x95, x96, x97, x98, x16, rfl, hB⟩ hd K hK
      have d0 : x93 = _ := hd 35 (by kernel_rfl)
      have d1 : x94 = _ := hd 36 (by kernel_rfl)
      have hB2 : Below w0.heap.size w0 (w0.alloc (.cells #[.slice (some q) kN m, .slice (some bq) l2 l2] 34)) := (Below.refl _ w0).alloc (Nat.le_refl _) _
      subst d0 d1
      clear hd
      go_wp2
      exact hK _ _ ⟨_, _, _, _, _, _, _, _, _, _, _, _, _, _, _, _, _, _, _, _, _, _, _, _, _, _, _, _, _, _, _, _, _, _, _, _, _, _, _, _, _, _, rfl, hB.alloc hB.size _⟩ (⟨_, rfl, hB.size, Own.new _ _ _⟩) ⟨_, rfl⟩ (hB2)
    · rintro a w0 ⟨x58, x59, x60, x61, x62, x63, x64, x65, x66, x67, x68, x69, x70, x71, x72, x73, x74, x75, x76, x77, x78, x79, x80, x81, x82, x83, x84, x85, x86, x87, x88, x89, x90, x91, x92, x93, x94, x95, x96, x97, x98, x16, rfl, hB⟩ hd K hK
      obtain ⟨g, e95, h95, hO95⟩ := hd 37 (by kernel_rfl)
      have e95 : x95 = _ := e95
      subst e95
      clear hd
      go_wp2_with (first | (go_at_call 60; ((with_reducible refine (hk3.out g w0 hO95 (hRx.out _ hB) (hBx.out _ hB)).mono ?_); rintro e w2 ⟨⟨q0, cp0, rfl, hM0⟩, hB2⟩)))
      exact hK _ _ ⟨_, _, _, _, _, _, _, _, _, _, _, _, _, _, _, _, _, _, _, _, _, _, _, _, _, _, _, _, _, _, _, _, _, _, _, _, _, _, _, _, _, _, rfl, hB.trans (hB2.mono hB.size)⟩ (⟨q0, cp0, rfl, hM0.weak hB.size⟩) ⟨_, rfl⟩ (hB2)
    · rintro a w0 ⟨x58, x59, x60, x61, x62, x63, x64, x65, x66, x67, x68, x69, x70, x71, x72, x73, x74, x75, x76, x77, x78, x79, x80, x81, x82, x83, x84, x85, x86, x87, x88, x89, x90, x91, x92, x93, x94, x95, x96, x97, x98, x16, rfl, hB⟩ hd K hK
      have d0 : x92 = _ := hd 34 (by kernel_rfl)
      obtain ⟨q96, cp96, e96, hM96⟩ := hd 38 (by kernel_rfl)
      have e96 : x96 = _ := e96
      subst e96
      subst d0
      clear hd
      go_wp2
      exact hK _ _ ⟨_, _, _, _, _, _, _, _, _, _, _, _, _, _, _, _, _, _, _, _, _, _, _, _, _, _, _, _, _, _, _, _, _, _, _, _, _, _, _, _, _, _, rfl, hB⟩ (⟨q96, cp96, rfl, hM96⟩) ⟨_, rfl⟩ (Below.refl _ _)
    · rintro a w0 ⟨x58, x59, x60, x61, x62, x63, x64, x65, x66, x67, x68, x69, x70, x71, x72, x73, x74, x75, x76, x77, x78, x79, x80, x81, x82, x83, x84, x85, x86, x87, x88, x89, x90, x91, x92, x93, x94, x95, x96, x97, x98, x16, rfl, hB⟩ hd K hK
      obtain ⟨q68, cp68, e68, hM68⟩ := hd 10 (by kernel_rfl)
      have e68 : x68 = _ := e68
      subst e68
      obtain ⟨q81, cp81, e81, hM81⟩ := hd 23 (by kernel_rfl)
      have e81 : x81 = _ := e81
      subst e81
      obtain ⟨q97, cp97, e97, hM97⟩ := hd 39 (by kernel_rfl)
      have e97 : x97 = _ := e97
      subst e97
      have hB2 : Below w0.heap.size w0 (w0.alloc (.cells #[.int .i64 A4, .slice q68 m cp68, .int .i64 (-B4), .slice q81 m cp81, .int .i64 dd, .slice q97 (m - 1) cp97] 83)) := (Below.refl _ w0).alloc (Nat.le_refl _) _
      clear hd
      go_wp2
      exact hK _ _ ⟨_, _, _, _, _, _, _, _, _, _, _, _, _, _, _, _, _, _, _, _, _, _, _, _, _, _, _, _, _, _, _, _, _, _, _, _, _, _, _, _, _, _, rfl, hB.alloc hB.size _⟩ (⟨_, q68, cp68, q81, cp81, q97, cp97, rfl, hB.size, Own.new _ _ _, hM68.below hB2 (Nat.le_refl _), hM81.below hB2 (Nat.le_refl _), hM97.below hB2 (Nat.le_refl _)⟩) ⟨_, rfl⟩ (hB2)
    · rintro a w0 ⟨x58, x59, x60, x61, x62, x63, x64, x65, x66, x67, x68, x69, x70, x71, x72, x73, x74, x75, x76, x77, x78, x79, x80, x81, x82, x83, x84, x85, x86, x87, x88, x89, x90, x91, x92, x93, x94, x95, x96, x97, x98, x16, rfl, hB⟩ hd K hK
      obtain ⟨g, q1, cp1, q2, cp2, q3, cp3, e98, h98, hO98, hM1, hM2, hM3⟩ := hd 40 (by kernel_rfl)
      have e98 : x98 = _ := e98
      subst e98
      clear hd
      go_wp2
      exact hK _ _ ⟨_, _, _, _, _, _, _, _, _, _, _, _, _, _, _, _, _, _, _, _, _, _, _, _, _, _, _, _, _, _, _, _, _, _, _, _, _, _, _, _, _, _, rfl, hB⟩ (⟨g, q1, cp1, q2, cp2, q3, cp3, rfl, h98, hO98, hM1, hM2, hM3⟩) ⟨_, rfl⟩ (Below.refl _ _)
  · rintro a w1 ⟨x58, x59, x60, x61, x62, x63, x64, x65, x66, x67, x68, x69, x70, x71, x72, x73, x74, x75, x76, x77, x78, x79, x80, x81, x82, x83, x84, x85, x86, x87, x88, x89, x90, x91, x92, x93, x94, x95, x96, x97, x98, x16, rfl, hB⟩ hF
    obtain ⟨g98, q1, c1, q2, c2, q3, c3, e16, h98, hO98, hM1, hM2, hM3⟩ := hF 41 (by decide)
    have e16 : x16 = _ := e16
    subst e16
    clear hF
    have bz := hB.size
    have oS1 := oS.below hB ltS
    have b1 := bW.trans (hB.mono bW.size)
    have hso' := Lib.hid (hso.out q1 c1 q2 c2 q3 c3 g98 w1 hM1.rd hM2.rd hM3.rd g12 oS1 hO98)
    clear hM1 hM2 hM3 hO98
    go_wp2_with (first
      | (go_at_call 61; ((with_reducible refine (hso'.out).mono ?_); rintro e w2 ⟨rfl, hB2⟩; have b2 := b1.trans (hB2.mono b1.size))))
    go_ret2
    exact ⟨rfl, b2⟩
end Go.Proofs.Ytbibmncepjmgcaa
