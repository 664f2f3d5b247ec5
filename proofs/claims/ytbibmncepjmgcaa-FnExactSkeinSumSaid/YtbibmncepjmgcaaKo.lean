/- SkeinSum: the model. SkeinSum: errors and law. (Written by genskl.py.) -/
import Derived.Test.YtbibmncepjmgcaaSkh
import Derived.Test.YtbibmncepjmgcaaBrx
import Derived.Test.YtbibmncepjmgcaaSkp
namespace Go.Proofs.Ytbibmncepjmgcaa
open Go.RowKit Go.Lib
set_option linter.unusedVariables false
set_option linter.unusedSimpArgs false
set_option maxRecDepth 100000 in
set_option maxHeartbeats 4000000 in
theorem witZ_any (q : Addr) (kN m : Nat) (xs : List Int) (hm : xs.length = m) (hk : kN < m) (hm2 : m ≤ 24) (w : World) (hR : Rd w (some q) xs) :
    Calls Try.prog 56 #[.slice (some q) m m, .int .i64 (kN : Int), .int .i64 0] w fun e w' => (∃ g cap, e = .returned (.slice (some ⟨g, 0, none⟩) (m - 1) cap) ∧ Rd w' (some ⟨g, 0, none⟩) (sk0 xs kN)) ∧ Below w.heap.size w w' := by
  have sA := slA q kN m (by omega)
  have sB := slB q kN m hk
  have e1 : (xs.take kN).length = kN := by rw [List.length_take]; omega
  have e2 : (xs.drop (kN + 1)).length = m - (kN + 1) := by rw [List.length_drop]; omega
  have hown := Lib.hid (fun w hR => ownS_any q m (xs.take kN) (by omega) w hR)
  rw [e1] at hown
  have hRk := Lib.hid (Rd.takeN hR kN)
  have hB0 : Rd w (some (bhA q kN m)) (xs.drop (kN + 1)) := Rd.bh hR kN m hm
  obtain ⟨l2, hl2⟩ : ∃ l, m - (kN + 1) = l := ⟨_, rfl⟩
  obtain ⟨bq, hbq⟩ : ∃ b, bhA q kN m = b := ⟨_, rfl⟩
  rw [hl2, hbq] at sB
  rw [hl2] at e2
  rw [hbq] at hB0
  have hBc := Lib.hid (fun w' (hb : Below w.heap.size w w') => hB0.below hb)
  have e3 : (sk0 xs kN).length = m - 1 := by rw [sk0_len (by omega), hm]
  have e4 : sk0 xs kN = xs.take kN ++ xs.drop (kN + 1) := rfl
  rw [e4] at e3 ⊢
  obtain ⟨A, hA⟩ : ∃ A, xs.take kN = A := ⟨_, rfl⟩
  obtain ⟨D, hD⟩ : ∃ D, xs.drop (kN + 1) = D := ⟨_, rfl⟩
  rw [hA] at e1 e3 hown hRk ⊢
  rw [hD] at e2 e3 hBc ⊢
  have l2b : l2 ≤ 24 := by omega
  have hM1 := Lib.hid e1
  have hM2 := Lib.hid e2
  have hM3 := Lib.hid e3
  have wk2 : wrap64 ((kN : Int) + 1) = (kN : Int) + 1 := IntWalk.wrap64_in _ (by omega)
  have wk : IntKind.i64.wrap ((kN : Int) + 1) = (kN : Int) + 1 := IntWalk.i64_in _ (by omega)
  clear hA hD hR hB0 e1 e2 e3 e4 hl2 hbq hm
  go_enter Try.func56, Try.ntmps56
  go_wp2_with (first
    | (go_at_call 101; ((with_reducible refine (hown.out _ hRk.out).mono ?_); rintro e w1 ⟨⟨g, c2, rfl, hI⟩, hB⟩))
    | (refine wpList_append_ints_many rfl (.tmp 18) (.tmp 22) rfl w.heap.size g c2 A D rfl hI bq l2 ?_ ((hBc.out _ hB).cell bq rfl) (by rw [hM1.out, hM2.out]; omega) hB.size ?_; (rw [hM2.out]; rfl); intro g2 cap2 w3 hI2 hG2 hat2; have hB3 := hB.grown hG2 hB.size (fun b e => by have := hI.1; simp at e; omega)))
  go_ret
  exact ⟨⟨g2, cap2, by rw [← hM3.out]; rfl, hI2.rd⟩, hB3⟩
set_option maxRecDepth 100000 in
set_option maxHeartbeats 4000000 in
theorem witS_any (q : Addr) (kN m : Nat) (xs : List Int) (hm : xs.length = m) (hk : kN < m) (hm2 : m ≤ 24) (x : Int) (hx : x ≠ 0) (w : World) (hR : Rd w (some q) xs) :
    Calls Try.prog 56 #[.slice (some q) m m, .int .i64 (kN : Int), .int .i64 x] w fun e w' => (∃ g cap, e = .returned (.slice (some ⟨g, 0, none⟩) m cap) ∧ Rd w' (some ⟨g, 0, none⟩) (skw xs kN x)) ∧ Below w.heap.size w w' := by
  have sA := slA q kN m (by omega)
  have sB := slB q kN m hk
  have e1 : (xs.take kN).length = kN := by rw [List.length_take]; omega
  have e2 : (xs.drop (kN + 1)).length = m - (kN + 1) := by rw [List.length_drop]; omega
  have hown := Lib.hid (fun w hR => ownS_any q m (xs.take kN) (by omega) w hR)
  rw [e1] at hown
  have hRk := Lib.hid (Rd.takeN hR kN)
  have hB0 : Rd w (some (bhA q kN m)) (xs.drop (kN + 1)) := Rd.bh hR kN m hm
  obtain ⟨l2, hl2⟩ : ∃ l, m - (kN + 1) = l := ⟨_, rfl⟩
  obtain ⟨bq, hbq⟩ : ∃ b, bhA q kN m = b := ⟨_, rfl⟩
  rw [hl2, hbq] at sB
  rw [hl2] at e2
  rw [hbq] at hB0
  have hBc := Lib.hid (fun w' (hb : Below w.heap.size w w') => hB0.below hb)
  have e3 : (skw xs kN x).length = m := by rw [skw_len (by omega), hm]
  have e4 : skw xs kN x = xs.take kN ++ [x] ++ xs.drop (kN + 1) := rfl
  rw [e4] at e3 ⊢
  obtain ⟨A, hA⟩ : ∃ A, xs.take kN = A := ⟨_, rfl⟩
  obtain ⟨D, hD⟩ : ∃ D, xs.drop (kN + 1) = D := ⟨_, rfl⟩
  rw [hA] at e1 e3 hown hRk ⊢
  rw [hD] at e2 e3 hBc ⊢
  have l2b : l2 ≤ 24 := by omega
  have hM1 := Lib.hid e1
  have hM2 := Lib.hid e2
  have hM3 := Lib.hid e3
  have wk2 : wrap64 ((kN : Int) + 1) = (kN : Int) + 1 := IntWalk.wrap64_in _ (by omega)
  have wk : IntKind.i64.wrap ((kN : Int) + 1) = (kN : Int) + 1 := IntWalk.i64_in _ (by omega)
  have hx0 : (x == 0) = false := by simp [hx]
  clear hA hD hR hB0 e1 e2 e3 e4 hl2 hbq hm
  go_enter Try.func56, Try.ntmps56
  go_wp2_with (first
    | (go_at_call 101; ((with_reducible refine (hown.out _ hRk.out).mono ?_); rintro e w1 ⟨⟨g, c2, rfl, hI⟩, hB⟩))
    | (refine wpList_append_ints_at rfl (.tmp 14) (.tmp 16) rfl w.heap.size g c2 A x rfl (hI.alloc _) ⟨w1.heap.size, 0, none⟩ 1 rfl ((Own.new _ _ _).cell 0) (by have := hM1.out; omega) (by have := hB.size; simp; omega) ?_; intro g2 cap2 w3 hI2 hG2 hat2; have hB3 := (hB.alloc hB.size _).grown hG2 (by have := hB.size; simp; omega) (fun b e => by have := hI.1; simp at e; omega))
    | (refine wpList_append_ints_many rfl (.tmp 18) (.tmp 22) rfl w.heap.size g2 cap2 (A ++ [x]) D rfl hI2 bq l2 ?_ ((hBc.out _ hB3).cell bq rfl) (by rw [List.length_append, hM1.out, hM2.out]; simp; omega) hB3.size ?_; (rw [hM2.out]; rfl); intro g4 cap4 w4 hI4 hG4 hat4; have hB4 := hB3.grown hG4 hB3.size (fun b e => by have := hI2.1; simp at e; omega)))
  go_ret
  have e : ival g4 cap4 (A ++ x :: D) = .slice (some ⟨g4, 0, none⟩) m cap4 := by
    unfold ival; rw [← hM3.out]; simp
  exact ⟨⟨g4, cap4, congrArg Ending.returned e, hI4.rd⟩, hB4⟩
set_option maxRecDepth 100000 in
set_option maxHeartbeats 8000000 in
theorem skS_ok (p a n : Int) (hpw : -9223372036854775808 ≤ p ∧ p ≤ 9223372036854775807) (q : Addr) (kN : Nat) (xs : List Int) (hx : xs.length ≤ 1048576) (h1 : baseB p a = true) (h2 : brdB n xs = true) (hkx : kN < xs.length) (w : World) (hR : Rd w (some q) xs) :
    Calls Try.prog 25 #[.int .i64 p, .int .i64 a, .int .i64 n, .slice (some q) xs.length xs.length, .int .i64 (kN : Int)] w fun e w' => e = .returned (.tuple #[.int .i64 (skV p (lvN p a) n a (rcp p a) xs kN), .int .i64 0]) ∧ Below w.heap.size w w' := by
  obtain ⟨hpr, hp, hp2, a1, a2⟩ := baseB_t h1
  obtain ⟨⟨n2, n6, hxl⟩, hxs⟩ := brdB_t h2
  have hrb := rcp_pos p a hpr a1 a2
  have hin := Lib.hid (fun w1 => (invS_any p a w1 hpr a1 a2).mono fun e w' h => (show e = .returned (.int .i64 (rcp p a)) ∧ w' = w1 from ⟨h.1, h.2.symm⟩))
  have hg := Lib.hid (fun w hR => givS_any p a n (some q) xs.length xs w hx hpw hR)
  rw [h1, h2] at hg
  obtain ⟨z, hz⟩ : ∃ z, xs.getD kN 0 = z := ⟨_, rfl⟩
  have hxk : xs.getD kN 0 ≠ 0 ∧ -n < xs.getD kN 0 ∧ xs.getD kN 0 < n := hxs _ (by rw [List.getD_eq_getElem?_getD, List.getElem?_eq_getElem hkx]; exact List.getElem_mem _)
  rw [hz] at hxk
  obtain ⟨x, hxx⟩ : ∃ x, max z (-z) = x := ⟨_, rfl⟩
  have hxo : x ≠ 0 ∧ -n < x ∧ x < n := by rw [← hxx]; omega
  have hxo2 : -x ≠ 0 ∧ -n < -x ∧ -x < n := by omega
  obtain ⟨b, hb⟩ : ∃ b, rcp p a = b := ⟨_, rfl⟩
  have hw1 := Lib.hid (fun w hR => witS_any q kN xs.length xs rfl hkx (by omega) x hxo.1 w hR)
  have hw2 := Lib.hid (fun w hR => witS_any q kN xs.length xs rfl hkx (by omega) (-x) hxo2.1 w hR)
  have hw3 := Lib.hid (fun w hR => witZ_any q kN xs.length xs rfl hkx (by omega) w hR)
  have lw1 : (skw xs kN x).length = xs.length := skw_len hkx x
  have lw2 : (skw xs kN (-x)).length = xs.length := skw_len hkx (-x)
  have lw3 : (sk0 xs kN).length = xs.length - 1 := sk0_len hkx
  have j1 := Lib.hid (fun q0 cap w hR => jnS_any p a n h1 n2 n6 q0 cap (skw xs kN x) (by omega) (skw_ok hxs kN x hxo) w hR)
  have j2 := Lib.hid (fun q0 cap w hR => jnS_any p a n h1 n2 n6 q0 cap (skw xs kN (-x)) (by omega) (skw_ok hxs kN (-x) hxo2) w hR)
  have j3 := Lib.hid (fun q0 cap w hR => jnS_any p a n h1 n2 n6 q0 cap (sk0 xs kN) (by omega) (sk0_ok hxs kN) w hR)
  rw [lw1, hb] at j1
  rw [lw2, hb] at j2
  rw [lw3, hb] at j3
  have hV : skV p (lvN p a) n a b xs kN = (pw p a 4 * jnV p (lvN p a) n a b (skw xs kN x) - pw p b 4 * jnV p (lvN p a) n a b (skw xs kN (-x)) + (a * a - b * b) * jnV p (lvN p a) n a b (sk0 xs kN)) % p := by unfold skV; rw [hz, hxx]
  rw [hb] at hin hrb ⊢
  rw [hV, ← skV_model]
  have r1 := jnV_rng (c := lvN p a) (n := n) (a := a) (b := b) hp (skw xs kN x)
  have r2 := jnV_rng (c := lvN p a) (n := n) (a := a) (b := b) hp (skw xs kN (-x))
  have r3 := jnV_rng (c := lvN p a) (n := n) (a := a) (b := b) hp (sk0 xs kN)
  obtain ⟨J1, hJ1⟩ : ∃ y, jnV p (lvN p a) n a b (skw xs kN x) = y := ⟨_, rfl⟩
  obtain ⟨J2, hJ2⟩ : ∃ y, jnV p (lvN p a) n a b (skw xs kN (-x)) = y := ⟨_, rfl⟩
  obtain ⟨J3, hJ3⟩ : ∃ x, jnV p (lvN p a) n a b (sk0 xs kN) = x := ⟨_, rfl⟩
  rw [hJ1] at j1 r1 ⊢
  rw [hJ2] at j2 r2 ⊢
  rw [hJ3] at j3 r3 ⊢
  have hpA := Lib.hid (fun w => (powS_any p a 4 w hp hp2 (by omega) a2 (by omega)).mono fun e w' h => (show e = .returned (.int .i64 (pw p a 4)) ∧ w' = w from ⟨h.1, h.2.symm⟩))
  have hpB := Lib.hid (fun w => (powS_any p b 4 w hp hp2 (by omega) hrb.2 (by omega)).mono fun e w' h => (show e = .returned (.int .i64 (pw p b 4)) ∧ w' = w from ⟨h.1, h.2.symm⟩))
  rw [show ((4 : Nat) : Int) = 4 from rfl] at hpA hpB
  have rA := pw_range p a hp 4
  have rB := pw_range p b hp 4
  obtain ⟨A4, hA4⟩ : ∃ x, pw p a 4 = x := ⟨_, rfl⟩
  obtain ⟨B4, hB4⟩ : ∃ x, pw p b 4 = x := ⟨_, rfl⟩
  rw [hA4] at hpA rA ⊢
  rw [hB4] at hpB rB ⊢
  have saa := bnd_mul p a a 0 hp hp2 (by omega) a2 (by omega) a2
  have sbb := bnd_mul p b b 0 hp hp2 (by omega) hrb.2 (by omega) hrb.2
  have m1 := bnd_mul p J1 A4 0 hp hp2 r1.1 r1.2 rA.1 rA.2
  have m2 := bnd_mul p J2 B4 0 hp hp2 r2.1 r2.2 rB.1 rB.2
  have hm1 := Lib.hid (fun w1 => (modS_any p (a * a - b * b) w1 hp hp2 (by omega) (by omega)).mono fun e w' h => (show e = .returned (.int .i64 ((a * a - b * b) % p)) ∧ w' = w1 from ⟨h.1, h.2.symm⟩))
  have d0 := Int.emod_nonneg (a * a - b * b) (show p ≠ 0 by omega)
  have d1 := Int.emod_lt_of_pos (a * a - b * b) (show 0 < p by omega)
  obtain ⟨aa, haa⟩ : ∃ x, a * a = x := ⟨_, rfl⟩
  obtain ⟨bb, hbb⟩ : ∃ x, b * b = x := ⟨_, rfl⟩
  rw [haa] at hm1 d0 d1 saa ⊢
  rw [hbb] at hm1 d0 d1 sbb ⊢
  obtain ⟨dm, hdm⟩ : ∃ x, (aa - bb) % p = x := ⟨_, rfl⟩
  rw [hdm] at hm1 d0 d1 ⊢
  have m3 := bnd_mul p J3 dm 0 hp hp2 r3.1 r3.2 d0 d1
  obtain ⟨M1, hM1⟩ : ∃ x, J1 * A4 = x := ⟨_, rfl⟩
  obtain ⟨M2, hM2⟩ : ∃ x, J2 * B4 = x := ⟨_, rfl⟩
  obtain ⟨M3, hM3⟩ : ∃ x, J3 * dm = x := ⟨_, rfl⟩
  rw [hM1] at m1 ⊢
  rw [hM2] at m2 ⊢
  rw [hM3] at m3 ⊢
  have hm2 := Lib.hid (fun w1 => (modS_any p (M1 - M2 + M3) w1 hp hp2 (by omega) (by omega)).mono fun e w' h => (show e = .returned (.int .i64 ((M1 - M2 + M3) % p)) ∧ w' = w1 from ⟨h.1, h.2.symm⟩))
  obtain ⟨V, hVV⟩ : ∃ V, (M1 - M2 + M3) % p = V := ⟨_, rfl⟩
  rw [hVV] at hm2 ⊢
  obtain ⟨dd, hdd⟩ : ∃ x, aa - bb = x := ⟨_, rfl⟩
  rw [hdd] at hm1
  have u1 : wrap64 (J1 * A4) = M1 := by rw [hM1]; exact IntWalk.wrap64_in _ (by omega)
  have u2 : wrap64 (J2 * B4) = M2 := by rw [hM2]; exact IntWalk.wrap64_in _ (by omega)
  have u3 : wrap64 (J3 * dm) = M3 := by rw [hM3]; exact IntWalk.wrap64_in _ (by omega)
  have u4 : wrap64 (a * a) = aa := by rw [haa]; exact IntWalk.wrap64_in _ (by omega)
  have u5 : wrap64 (b * b) = bb := by rw [hbb]; exact IntWalk.wrap64_in _ (by omega)
  have u6 : wrap64 (aa - bb) = dd := by rw [hdd]; exact IntWalk.wrap64_in _ (by omega)
  have u7 : wrap64 (-x) = -x := IntWalk.wrap64_in _ (by omega)
  have u8 : wrap64 (M1 - M2) = M1 - M2 := IntWalk.wrap64_in _ (by omega)
  have u9 : wrap64 (M1 - M2 + M3) = M1 - M2 + M3 := IntWalk.wrap64_in _ (by omega)
  have wz : IntKind.i64.wrap (-z) = -z := IntWalk.i64_in _ (by omega)
  have hRx := Lib.hid (fun w' (hb : Below w.heap.size w w') => hR.below hb)
  have hcw := Lib.hid (fun w' (hb : Below w.heap.size w w') => show w'.cell? (q.add kN) = some (.int .i64 z) from by rw [← hz]; exact (hR.below hb).cell q rfl kN hkx)
  obtain ⟨m, hm⟩ : ∃ m, xs.length = m := ⟨_, rfl⟩
  rw [hm] at hg hw1 hw2 hw3 j1 j2 j3 hkx ⊢
  have k0 : ¬ (kN : Int) < 0 := by omega
  have k1 : ¬ (m : Int) ≤ (kN : Int) := by omega
  have hkm' : (kN : Int) < (m : Int) := by omega
  have m24 : m ≤ 24 := by omega
  have wm : wrap64 ((m : Int) - 1) = (m : Int) - 1 := IntWalk.wrap64_in _ (by omega)
  clear hV hVV hA4 hB4 haa hbb hdd hdm hM1 hM2 hM3 hJ1 hJ2 hJ3 hm hz hR h1 h2 hpr hxl hxs hrb hxk hxo hxo2 lw1 lw2 lw3 saa sbb m1 m2 m3 r1 r2 r3 rA rB d0 d1 hx hpw hb
  go_enter Try.func25, Try.ntmps25
  go_upto_region 3 with (first
    | (go_at_call 42; ((with_reducible refine (hg.out _ (hRx.out _ (Below.refl _ _))).mono ?_); rintro e wa ⟨rfl, hw⟩; have hw := hw.symm; subst hw))
    | (go_at_call 54; ((with_reducible refine (inS_t _ _ _ _ (by omega) (by omega)).mono ?_); rintro e wb ⟨rfl, hw⟩; (first | subst hw | (have hw := hw.symm; subst hw)))))
  refine wp_region_still_lit (by kernel_rfl) (by kernel_rfl) ?_
  have b1 : Below w.heap.size w { w with drawn := w.drawn + 1 } := (Below.refl _ w).drew
  generalize ({ w with drawn := w.drawn + 1 } : World) = w1 at *
  have y1 := hcw.out w1 b1
  have hi := hin.out w1
  iterate 2 still_step
  still_call hi
  iterate 12 still_step
  refine wpStill_nil ?_
  clear hi y1
  go_wp2_with (first
    | (go_at_call 56; ((with_reducible refine (hw3.out _ (hRx.out _ b5)).mono ?_); rintro e w6 ⟨⟨g6, c6, rfl, hR6⟩, hB6⟩; have b6 := b5.trans (hB6.mono b5.size)))
    | (go_at_call 52; ((with_reducible refine (j3.out _ _ w6 hR6).mono ?_); rintro e w7 ⟨rfl, hB7⟩; have b7 := b6.trans (hB7.mono b6.size)))
    | (go_at_call 56; ((with_reducible refine (hw2.out _ (hRx.out _ b3)).mono ?_); rintro e w4 ⟨⟨g4, c4, rfl, hR4⟩, hB4⟩; have b4 := b3.trans (hB4.mono b3.size)))
    | (go_at_call 52; ((with_reducible refine (j2.out _ _ w4 hR4).mono ?_); rintro e w5 ⟨rfl, hB5⟩; have b5 := b4.trans (hB5.mono b4.size)))
    | (go_at_call 56; ((with_reducible refine (hw1.out _ (hRx.out _ b1)).mono ?_); rintro e w2 ⟨⟨g2, c2, rfl, hR2⟩, hB2⟩; have b2 := b1.trans (hB2.mono b1.size)))
    | (go_at_call 52; ((with_reducible refine (j1.out _ _ w2 hR2).mono ?_); rintro e w3 ⟨rfl, hB3⟩; have b3 := b2.trans (hB3.mono b2.size)))
    | (go_at_call 57; ((with_reducible refine (hpA.out _).mono ?_); rintro e wq ⟨rfl, rfl⟩))
    | (go_at_call 57; ((with_reducible refine (hpB.out _).mono ?_); rintro e wq ⟨rfl, rfl⟩))
    | (go_at_call 58; ((with_reducible refine (hm1.out _).mono ?_); rintro e wq ⟨rfl, rfl⟩))
    | (go_at_call 58; ((with_reducible refine (hm2.out _).mono ?_); rintro e wq ⟨rfl, rfl⟩)))
  go_ret2
  exact ⟨rfl, b7⟩
end Go.Proofs.Ytbibmncepjmgcaa
namespace Go.Proofs.Ytbibmncepjmgcaa
open Go.RowKit Go.Lib
set_option linter.unusedVariables false
set_option linter.unusedSimpArgs false
set_option maxRecDepth 100000 in
set_option maxHeartbeats 4000000 in
theorem skI_bad (p a n k : Int) (q : Addr) (xs : List Int) (hx : xs.length ≤ 1048576) (h : (baseB p a && brdB n xs) = false) (w : World) (hR : Rd w (some q) xs) :
    Calls Try.prog 26 #[.int .i64 p, .int .i64 a, .int .i64 n, .slice (some q) xs.length xs.length, .int .i64 k] w fun e w' => e = .returned (.tuple #[.int .i64 0, .int .i64 2]) ∧ Below w.heap.size w w' := by
  have hb1 := Lib.hid (fun w => baseI_any p a w)
  have hb2 := Lib.hid (fun w hR => isBraidI_any n (some q) xs.length xs w hx hR)
  have hRx := Lib.hid hR
  obtain ⟨m, hm⟩ : ∃ m, xs.length = m := ⟨_, rfl⟩
  rw [hm] at hb2 ⊢
  cases hb : baseB p a with
  | false =>
    rw [hb] at hb1
    clear hb h hR hx hm hb2
    go_enter Try.func26, Try.ntmps26
    go_wp2_with (first
      | (go_at_call 44; ((with_reducible refine (hb1.out _).mono ?_); rintro e w1 ⟨rfl, rfl⟩)))
    go_ret2
    exact ⟨rfl, Below.refl _ _⟩
  | true =>
    rw [hb] at hb1 h
    rw [Bool.true_and] at h
    rw [h] at hb2
    clear hb h hR hx hm
    go_enter Try.func26, Try.ntmps26
    go_wp2_with (first
      | (go_at_call 44; ((with_reducible refine (hb1.out _).mono ?_); rintro e w1 ⟨rfl, rfl⟩))
      | (go_at_call 45; ((with_reducible refine (hb2.out _ hRx.out).mono ?_); rintro e w2 ⟨rfl, rfl⟩)))
    go_ret2
    exact ⟨rfl, Below.refl _ _⟩
set_option maxRecDepth 100000 in
set_option maxHeartbeats 4000000 in
theorem skI_out (p a n k : Int) (q : Addr) (xs : List Int) (hx : xs.length ≤ 1048576) (h1 : baseB p a = true) (h2 : brdB n xs = true) (hk : k < 0 ∨ (xs.length : Int) ≤ k) (w : World) (hR : Rd w (some q) xs) :
    Calls Try.prog 26 #[.int .i64 p, .int .i64 a, .int .i64 n, .slice (some q) xs.length xs.length, .int .i64 k] w fun e w' => e = .returned (.tuple #[.int .i64 0, .int .i64 2]) ∧ Below w.heap.size w w' := by
  have hb1 := Lib.hid (fun w => baseI_any p a w)
  rw [h1] at hb1
  have hb2 := Lib.hid (fun w hR => isBraidI_any n (some q) xs.length xs w hx hR)
  rw [h2] at hb2
  have hRx := Lib.hid hR
  obtain ⟨m, hm⟩ : ∃ m, xs.length = m := ⟨_, rfl⟩
  rw [hm] at hb2 hk ⊢
  clear h1 h2 hR hx hm
  by_cases k0 : k < 0
  · clear hk
    go_enter Try.func26, Try.ntmps26
    go_wp2_with (first
      | (go_at_call 44; ((with_reducible refine (hb1.out _).mono ?_); rintro e w1 ⟨rfl, rfl⟩))
      | (go_at_call 45; ((with_reducible refine (hb2.out _ hRx.out).mono ?_); rintro e w2 ⟨rfl, rfl⟩)))
    go_ret2
    exact ⟨rfl, Below.refl _ _⟩
  · have k1 : (m : Int) ≤ k := by omega
    clear hk
    go_enter Try.func26, Try.ntmps26
    go_wp2_with (first
      | (go_at_call 44; ((with_reducible refine (hb1.out _).mono ?_); rintro e w1 ⟨rfl, rfl⟩))
      | (go_at_call 45; ((with_reducible refine (hb2.out _ hRx.out).mono ?_); rintro e w2 ⟨rfl, rfl⟩)))
    go_ret2
    exact ⟨rfl, Below.refl _ _⟩
set_option maxRecDepth 100000 in
set_option maxHeartbeats 4000000 in
theorem skS_bad (p a n k : Int) (hpw : -9223372036854775808 ≤ p ∧ p ≤ 9223372036854775807) (q : Addr) (xs : List Int) (hx : xs.length ≤ 1048576) (h : (baseB p a && brdB n xs) = false) (w : World) (hR : Rd w (some q) xs) :
    Calls Try.prog 25 #[.int .i64 p, .int .i64 a, .int .i64 n, .slice (some q) xs.length xs.length, .int .i64 k] w fun e w' => e = .returned (.tuple #[.int .i64 0, .int .i64 2]) ∧ Below w.heap.size w w' := by
  have hg := Lib.hid (fun w hR => givS_any p a n (some q) xs.length xs w hx hpw hR)
  rw [h] at hg
  have hRx := Lib.hid hR
  obtain ⟨m, hm⟩ : ∃ m, xs.length = m := ⟨_, rfl⟩
  rw [hm] at hg ⊢
  clear h hR hx hm hpw
  go_enter Try.func25, Try.ntmps25
  go_wp2_with (first
    | (go_at_call 42; ((with_reducible refine (hg.out _ hRx.out).mono ?_); rintro e w2 ⟨rfl, rfl⟩)))
  go_ret2
  exact ⟨rfl, Below.refl _ _⟩
set_option maxRecDepth 100000 in
set_option maxHeartbeats 4000000 in
theorem skS_out (p a n k : Int) (hpw : -9223372036854775808 ≤ p ∧ p ≤ 9223372036854775807) (q : Addr) (xs : List Int) (hx : xs.length ≤ 1048576) (h : (baseB p a && brdB n xs) = true) (hk : k < 0 ∨ (xs.length : Int) ≤ k) (w : World) (hR : Rd w (some q) xs) :
    Calls Try.prog 25 #[.int .i64 p, .int .i64 a, .int .i64 n, .slice (some q) xs.length xs.length, .int .i64 k] w fun e w' => e = .returned (.tuple #[.int .i64 0, .int .i64 2]) ∧ Below w.heap.size w w' := by
  have hg := Lib.hid (fun w hR => givS_any p a n (some q) xs.length xs w hx hpw hR)
  rw [h] at hg
  have hRx := Lib.hid hR
  obtain ⟨m, hm⟩ : ∃ m, xs.length = m := ⟨_, rfl⟩
  rw [hm] at hg hk hx ⊢
  have hh := Lib.hid (show k < 0 ∨ (m : Int) - 1 < k from by omega)
  have wm : wrap64 ((m : Int) - 1) = (m : Int) - 1 := IntWalk.wrap64_in _ (by omega)
  clear h hR hx hm hpw hk
  go_enter Try.func25, Try.ntmps25
  go_wp2_with (first
    | (go_at_call 42; ((with_reducible refine (hg.out _ hRx.out).mono ?_); rintro e w2 ⟨rfl, rfl⟩))
    | (go_at_call 54; ((with_reducible refine (inS_f _ _ _ _ hh.out).mono ?_); rintro e w0 ⟨rfl, rfl⟩)))
  go_ret2
  exact ⟨rfl, Below.refl _ _⟩
set_option maxRecDepth 100000 in
set_option maxHeartbeats 4000000 in
theorem ske_walk (p0 : Int) (a : Int) (n : Int) (k : Int) (p : Option Addr) (cap : Nat) (xs : List Int) (w : World) (hx : xs.length ≤ 1048576) (hR : Rd w p xs) (x y : Int)
    (hS : ∀ w (q : Addr), Rd w (some q) xs → Calls Try.prog 25 #[.int .i64 p0, .int .i64 a, .int .i64 n, .slice (some q) xs.length xs.length, .int .i64 k] w fun e w' => e = .returned (.tuple #[.int .i64 x, .int .i64 y]) ∧ Below w.heap.size w w')
    (hI : ∀ w (q : Addr), Rd w (some q) xs → Calls Try.prog 26 #[.int .i64 p0, .int .i64 a, .int .i64 n, .slice (some q) xs.length xs.length, .int .i64 k] w fun e w' => e = .returned (.tuple #[.int .i64 x, .int .i64 y]) ∧ Below w.heap.size w w') :
    Calls Try.prog 7 #[.int .i64 p0, .int .i64 a, .int .i64 n, .slice p xs.length cap, .int .i64 k] w fun e w' => e = .returned (.bool true) ∧ Below w.heap.size w w' := by
  obtain ⟨l0, hm0⟩ : ∃ m, xs.length = m := ⟨_, rfl⟩
  have he0 := Lib.hid (fun p q cap cap' w hR hQ => eqI_same p q cap cap' xs (by omega) w hR hQ)
  have hc := Lib.hid (fun w hR => toI_any p cap xs hx w hR)
  have hS' := Lib.hid hS
  have hI' := Lib.hid hI
  have hR' := Lib.hid hR
  have hx' : ¬ (1048576 : Int) < (l0 : Int) := by omega
  rw [hm0] at he0 hc hS' hI' ⊢
  clear hS hI hm0 hR hx
  go_enter Try.func7, Try.ntmps7
  go_wp2_with (first
    | (go_at_call 17; ((with_reducible refine (he0.out _ _ _ _ w5 (Rd.own (hO34.below hB5 hO34.lt)) (Rd.own hO5)).mono ?_); rintro e w6 ⟨rfl, hB6⟩; have b6 := b5.trans (hB6.mono b5.size)))
    | (go_at_call 15; ((with_reducible refine (hc.out w4 (hR'.out.below b4)).mono ?_); rintro e w5 ⟨rfl, hO5, hB5⟩; have b5 := b4.trans (hB5.mono b4.size)))
    | (go_at_call 26; ((with_reducible refine (hI'.out w3 _ (Rd.own hO3)).mono ?_); rintro e w4 ⟨rfl, hB4⟩; have b4 := b3.trans (hB4.mono b3.size); have hO34 := hO3.below hB4 hO3.lt))
    | (go_at_call 15; ((with_reducible refine (hc.out w2 (hR'.out.below b2)).mono ?_); rintro e w3 ⟨rfl, hO3, hB3⟩; have b3 := b2.trans (hB3.mono b2.size)))
    | (go_at_call 25; ((with_reducible refine (hS'.out w1 _ (Rd.own hO1)).mono ?_); rintro e w2 ⟨rfl, hB2⟩; have b2 := hB1.trans (hB2.mono hB1.size)))
    | (go_at_call 15; ((with_reducible refine (hc.out w hR'.out).mono ?_); rintro e w1 ⟨rfl, hO1, hB1⟩)))
  go_ret
  exact ⟨rfl, b6⟩
theorem ske_big (p0 : Int) (a : Int) (n : Int) (k : Int) (p : Option Addr) (cap : Nat) (len : Nat) (w : World) (hm : len ≤ maxLen) (h : 1048576 < len) : Calls Try.prog 7 #[.int .i64 p0, .int .i64 a, .int .i64 n, .slice p len cap, .int .i64 k] w fun e w' => e = .returned (.bool true) ∧ Below w.heap.size w w' := by
  unfold maxLen at hm
  have h' : (1048576 : Int) < (len : Int) := by omega
  go_enter Try.func7, Try.ntmps7
  go_wp2
  go_ret
  exact ⟨rfl, Below.refl _ _⟩
theorem ske_law (p a n : Int) (q0 : Option Addr) (cap : Nat) (xs : List Int) (k : Int) (hpw : -9223372036854775808 ≤ p ∧ p ≤ 9223372036854775807) (w : World) (hm : xs.length ≤ maxLen) (hR : Rd w q0 xs) :
    Calls Try.prog 7 #[.int .i64 p, .int .i64 a, .int .i64 n, .slice q0 xs.length cap, .int .i64 k] w fun e w' => e = .returned (.bool true) ∧ Below w.heap.size w w' := by
  by_cases h : xs.length ≤ 1048576
  · cases hb : baseB p a && brdB n xs with
    | false => exact ske_walk p a n k q0 cap xs w h hR _ _ (fun w q hR => skS_bad p a n k hpw q xs h hb w hR) (fun w q hR => skI_bad p a n k q xs h hb w hR)
    | true =>
      have hb2 := hb
      rw [Bool.and_eq_true] at hb2
      by_cases hk : k < 0 ∨ (xs.length : Int) ≤ k
      · exact ske_walk p a n k q0 cap xs w h hR _ _ (fun w q hR => skS_out p a n k hpw q xs h hb hk w hR) (fun w q hR => skI_out p a n k q xs h hb2.1 hb2.2 hk w hR)
      · obtain ⟨kN, rfl⟩ : ∃ kN : Nat, k = (kN : Int) := ⟨k.toNat, by omega⟩
        exact ske_walk p a n kN q0 cap xs w h hR _ _ (fun w q hR => skS_ok p a n hpw q kN xs h hb2.1 hb2.2 (by omega) w hR) (fun w q hR => skI_ok p a n q kN xs h hb2.1 hb2.2 (by omega) w hR)
  · exact ske_big p a n k q0 cap xs.length w hm (by omega)
end Go.Proofs.Ytbibmncepjmgcaa
