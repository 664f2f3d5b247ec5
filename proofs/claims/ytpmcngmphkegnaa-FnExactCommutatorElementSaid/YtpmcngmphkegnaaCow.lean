/- The law of CommutatorElement: the walk. (Written by genkob.py.) -/
import Derived.Test.YtpmcngmphkegnaaAdw
namespace Go.Proofs.Ytpmcngmphkegnaa
open Go.RowKit Go.Lib
set_option linter.unusedVariables false
set_option linter.unusedSimpArgs false
set_option maxRecDepth 100000 in
set_option maxHeartbeats 32000000 in
theorem com_walk (p c n p2 c2 n2 : Int) (q1 q2 : Option Addr) (cap1 cap2 : Nat) (xs ys : List Tm) (hts : ∀ t ∈ xs, t.2.1.length = 16 ∧ Bytes t.2.1) (hts2 : ∀ t ∈ ys, t.2.1.length = 16 ∧ Bytes t.2.1) (hx : xs.length + ys.length ≤ 1048576) (w : World) (hR1 : RdT w q1 xs) (hR2 : RdT w q2 ys) (p' c' n' code : Int) (L : List Tm) (h16L : L16 L) (hL : L.length ≤ 1048576)
    (hS0 : ∀ (a cap a2 cap2 : Nat) (w : World), RdT w (some ⟨a, 0, none⟩) xs → RdT w (some ⟨a2, 0, none⟩) ys → Calls Try.prog 29 #[.agg (ecl p c n (.slice (some ⟨a, 0, none⟩) xs.length cap)), .agg (ecl p2 c2 n2 (.slice (some ⟨a2, 0, none⟩) ys.length cap2))] w fun e w' => (∃ q cap, e = .returned (.tuple #[.agg (ecl p' c' n' (.slice q L.length cap)), .int .i64 code]) ∧ Res w' w.heap.size q L) ∧ Below w.heap.size w w')
    (hI0 : ∀ (a cap a2 cap2 : Nat) (w : World), RdT w (some ⟨a, 0, none⟩) xs → RdT w (some ⟨a2, 0, none⟩) ys → Calls Try.prog 30 #[.agg (ecl p c n (.slice (some ⟨a, 0, none⟩) xs.length cap)), .agg (ecl p2 c2 n2 (.slice (some ⟨a2, 0, none⟩) ys.length cap2))] w fun e w' => (∃ q cap, e = .returned (.tuple #[.agg (ecl p' c' n' (.slice q L.length cap)), .int .i64 code]) ∧ Res w' w.heap.size q L) ∧ Below w.heap.size w w') :
    Calls Try.prog 8 #[.agg (ecl p c n (.slice q1 xs.length cap1)), .agg (ecl p2 c2 n2 (.slice q2 ys.length cap2))] w fun e w' => e = .returned (.bool true) ∧ Below w.heap.size w w' := by
  have h16 : ∀ t ∈ xs, t.2.1.length = 16 := fun t h => (hts t h).1
  have h16y : ∀ t ∈ ys, t.2.1.length = 16 := fun t h => (hts2 t h).1
  have hszX := Lib.hid (fun w => szE_any p c n q1 xs.length cap1 1048576 w (by unfold maxLen; omega) (by omega) (by omega))
  rw [if_neg (by omega)] at hszX
  have hszY := Lib.hid (fun w => szE_any p2 c2 n2 q2 ys.length cap2 (1048576 - (xs.length : Int)) w (by unfold maxLen; omega) (by omega) (by omega))
  rw [if_neg (by omega)] at hszY
  have htoX := Lib.hid (fun w hR => toE_ex p c n q1 cap1 xs h16 (by omega) w hR)
  have htoY := Lib.hid (fun w hR => toE_ex p2 c2 n2 q2 cap2 ys h16y (by omega) w hR)
  have hS := Lib.hid hS0
  have hI := Lib.hid hI0
  have hrdX := Lib.hid (fun w g (h : Own w g (tsl xs).toArray 71) => h.rdT h16)
  have hrdY := Lib.hid (fun w g (h : Own w g (tsl ys).toArray 71) => h.rdT h16y)
  have heqX := Lib.hid (fun a b w hA hB => eqE_any p c n (some ⟨a, 0, none⟩) (some ⟨b, 0, none⟩) xs.length xs.length xs h16 (by omega) w hA hB)
  have heqY := Lib.hid (fun a b w hA hB => eqE_any p2 c2 n2 (some ⟨a, 0, none⟩) (some ⟨b, 0, none⟩) ys.length ys.length ys h16y (by omega) w hA hB)
  have hmkX := Lib.hid (fun g w h => markE_own p c n g xs.length 1 xs w (by omega) h16 (by omega) h)
  have hmkY := Lib.hid (fun g w h => markE_own p2 c2 n2 g ys.length (1 + xs.length * 18) ys w (by omega) h16y (by omega) h)
  have heq := Lib.hid (fun a b cap cap' w hA hB => eqE_any p' c' n' a b cap cap' L h16L hL w hA hB)
  have hmk := Lib.hid (fun q cap B w h => markE_res p' c' n' q cap 1 L B w hL h16L (by omega) h)
  have hhd := Lib.hid (fun q cap w h => heldE_res p' c' n' q cap 1 L w hL (by omega) h)
  have hrd := Lib.hid (fun w B q (h : Res w B q L) => h.rd h16L)
  have hRX := Lib.hid (fun w' (hb : Below w.heap.size w w') => hR1.below hb)
  have hRY := Lib.hid (fun w' (hb : Below w.heap.size w w') => hR2.below hb)
  have hyn : ((1 + xs.length * 18 : Nat) : Int) = ((1 : Nat) : Int) + (xs.length : Int) * 18 := by omega
  obtain ⟨y1, hy1⟩ : ∃ y : Nat, 1 + xs.length * 18 = y := ⟨_, rfl⟩
  rw [hy1] at hyn hmkY
  rw [← hyn] at hmkX
  obtain ⟨y2, hy2⟩ : ∃ y : Nat, y1 + ys.length * 18 = y := ⟨_, rfl⟩
  have hyn2 : (y1 : Int) + (ys.length : Int) * 18 = (y2 : Int) := by omega
  rw [hyn2] at hmkY
  clear hyn hyn2 hy1 hy2
  have hy0 : ¬ (y2 : Int) < 0 := by omega
  obtain ⟨l, hl⟩ : ∃ l, xs.length = l := ⟨_, rfl⟩
  rw [hl] at hx hszX hszY htoX hS hI heqX hmkX ⊢
  obtain ⟨m, hm⟩ : ∃ m, ys.length = m := ⟨_, rfl⟩
  rw [hm] at hx hszY htoY hS hI heqY hmkY ⊢
  obtain ⟨l', hl'⟩ : ∃ l, L.length = l := ⟨_, rfl⟩
  rw [hl'] at hS hI heq hmk hhd hL
  have hlz : ¬ (1048576 - (l : Int) < 0) := by omega
  have hlz2 : ¬ (1048576 - (l : Int) - (m : Int) < 0) := by omega
  obtain ⟨z1, hz1⟩ : ∃ z : Int, 1048576 - (l : Int) = z := ⟨_, rfl⟩
  rw [hz1] at hszX hszY hlz hlz2
  obtain ⟨z2, hz2⟩ : ∃ z : Int, z1 - (m : Int) = z := ⟨_, rfl⟩
  rw [hz2] at hszY hlz2
  obtain ⟨z', hz'⟩ : ∃ z : Int, ((1 : Nat) : Int) + (l' : Int) * 18 = z := ⟨_, rfl⟩
  rw [hz'] at hmk hhd
  have hz0 : ¬ z' < 0 := by omega
  simp only [Int.natCast_one] at hmkX hmk hhd
  clear hl hl' hm hR1 hR2 h16 h16y h16L hts hts2 hS0 hI0 hz1 hz2 hz' hx hL
  unfold ecl at *
  go_enter Try.func8, Try.ntmps8
  go_upto_region 8 with (first
    | (go_at_call 14; ((with_reducible refine (hszY.out w1).mono ?_); rintro e w2 ⟨rfl, hB⟩; replace o_X := o_X.below hB o_X.lt; replace o_Y := o_Y.below hB o_Y.lt; replace b := b.trans (hB.mono b.size); clear hB))
    | (refine wpList_load_row rfl 24 _ rfl _ rfl 24 _ (0, 0) _ (o_Y) Try.underlying24 rfl (by kernel_rfl) ?_)
    | (go_at_call 14; ((with_reducible refine (hszX.out ((w.alloc (.cells #[.int .i64 p, .int .i64 c, .int .i64 n, .slice q1 l cap1] 24)).alloc (.cells #[.int .i64 p2, .int .i64 c2, .int .i64 n2, .slice q2 m cap2] 24))).mono ?_); rintro e w1 ⟨rfl, hB⟩; have o_X := ((Own.new w #[.int .i64 p, .int .i64 c, .int .i64 n, .slice q1 l cap1] 24).alloc (.cells #[.int .i64 p2, .int .i64 c2, .int .i64 n2, .slice q2 m cap2] 24)).below hB (by simp; omega); have o_Y := (Own.at (w.alloc (.cells #[.int .i64 p, .int .i64 c, .int .i64 n, .slice q1 l cap1] 24)) #[.int .i64 p2, .int .i64 c2, .int .i64 n2, .slice q2 m cap2] 24 (by simp : _ = w.heap.size + 1)).below hB (by simp); have b : Below w.heap.size w w1 := (((Below.refl w.heap.size w).alloc (Nat.le_refl _) (.cells #[.int .i64 p, .int .i64 c, .int .i64 n, .slice q1 l cap1] 24)).alloc (by simp) (.cells #[.int .i64 p2, .int .i64 c2, .int .i64 n2, .slice q2 m cap2] 24)).trans (hB.mono (by simp; omega)); clear hB))
    | (refine wpList_load_row rfl 24 _ rfl _ rfl 24 _ (0, 0) _ ((Own.new w #[.int .i64 p, .int .i64 c, .int .i64 n, .slice q1 l cap1] 24).alloc (.cells #[.int .i64 p2, .int .i64 c2, .int .i64 n2, .slice q2 m cap2] 24)) Try.underlying24 rfl (by kernel_rfl) ?_))
  obtain ⟨wd, rfl⟩ : ∃ x, x = w2 := ⟨_, rfl⟩
  have ltX := o_X.lt
  have ltY := o_Y.lt
  refine gen_fr (fun jx => ⟨List.toArray [.agg #[.int .i64 p, .int .i64 c, .int .i64 n, .slice q1 l cap1], .agg #[.int .i64 p2, .int .i64 c2, .int .i64 n2, .slice q2 m cap2], .pointer (some ⟨w.heap.size, 0, none⟩), .pointer (some ⟨w.heap.size + 1, 0, none⟩), .bool false, .int .i64 z2, undef, undef, undef, undef, undef, undef, undef, undef, undef, undef, undef, jx 17, jx 18, jx 19, jx 20, jx 21, jx 22, jx 23, jx 24, jx 25, jx 26, undef, undef, undef, undef, undef, undef, undef, undef, undef, undef, undef, undef, undef, undef, undef, undef, undef, undef, undef, undef, undef, undef, undef, undef, undef, undef, undef, undef, undef, undef, undef, undef, undef, undef, undef, undef, undef, undef, undef, undef, undef, undef, undef, undef, undef, undef, undef, undef, undef, undef, undef, undef, undef, undef, undef, undef, undef, undef, undef, undef, undef, undef, undef, undef, undef, undef, undef, undef, undef, undef, undef, undef, undef, undef, undef, undef, undef, undef, undef, undef, undef, undef, undef, undef, undef, undef, undef, undef, undef, undef, undef, undef], []⟩) ?_ (by rfl)
  intro jx
  refine wp_region_facts (by kernel_rfl) (by kernel_rfl) (fun a w' => ∃ x28 x29 x30 x31 x32 x27 x33 x34 x6 x7 : Value, a = ⟨List.toArray [.agg #[.int .i64 p, .int .i64 c, .int .i64 n, .slice q1 l cap1], .agg #[.int .i64 p2, .int .i64 c2, .int .i64 n2, .slice q2 m cap2], .pointer (some ⟨w.heap.size, 0, none⟩), .pointer (some ⟨w.heap.size + 1, 0, none⟩), .bool false, .int .i64 z2, x6, x7, undef, undef, undef, undef, undef, undef, undef, undef, undef, jx 17, jx 18, jx 19, jx 20, jx 21, jx 22, jx 23, jx 24, jx 25, jx 26, x27, x28, x29, x30, x31, x32, x33, x34, undef, undef, undef, undef, undef, undef, undef, undef, undef, undef, undef, undef, undef, undef, undef, undef, undef, undef, undef, undef, undef, undef, undef, undef, undef, undef, undef, undef, undef, undef, undef, undef, undef, undef, undef, undef, undef, undef, undef, undef, undef, undef, undef, undef, undef, undef, undef, undef, undef, undef, undef, undef, undef, undef, undef, undef, undef, undef, undef, undef, undef, undef, undef, undef, undef, undef, undef, undef, undef, undef, undef, undef, undef, undef, undef, undef, undef, undef, undef, undef, undef, undef, undef, undef], []⟩ ∧ Below wd.heap.size wd w') (fun jF a w' => match jF with | 0 => sl a 28 = .agg #[.int .i64 p, .int .i64 c, .int .i64 n, .slice q1 l cap1] | 1 => ∃ g : Nat, sl a 29 = .agg #[.int .i64 p, .int .i64 c, .int .i64 n, .slice (some ⟨g, 0, none⟩) l l] ∧ wd.heap.size ≤ g ∧ Own w' g (tsl xs).toArray 71 | 2 => sl a 30 = .agg #[.int .i64 p2, .int .i64 c2, .int .i64 n2, .slice q2 m cap2] | 3 => ∃ g : Nat, sl a 31 = .agg #[.int .i64 p2, .int .i64 c2, .int .i64 n2, .slice (some ⟨g, 0, none⟩) m m] ∧ wd.heap.size ≤ g ∧ Own w' g (tsl ys).toArray 71 | 4 => ∃ (q : Option Addr) (cp : Nat), sl a 32 = .tuple #[.agg #[.int .i64 p', .int .i64 c', .int .i64 n', .slice q l' cp], .int .i64 code] ∧ Res w' wd.heap.size q L | 5 => ∃ (q : Option Addr) (cp : Nat), sl a 27 = .tuple #[.agg #[.int .i64 p', .int .i64 c', .int .i64 n', .slice q l' cp], .int .i64 code] ∧ Res w' wd.heap.size q L | 6 => ∃ (q : Option Addr) (cp : Nat), sl a 33 = .agg #[.int .i64 p', .int .i64 c', .int .i64 n', .slice q l' cp] ∧ Res w' wd.heap.size q L | 7 => sl a 34 = .int .i64 code | 8 => ∃ g : Nat, sl a 6 = .pointer (some ⟨g, 0, none⟩) ∧ wd.heap.size ≤ g ∧ ∃ cs : Array Value, cs.size = 4 ∧ Own w' g cs 28 | 9 => ∃ (g : Nat) (q : Option Addr) (cp : Nat), sl a 6 = .pointer (some ⟨g, 0, none⟩) ∧ wd.heap.size ≤ g ∧ Own w' g #[.int .i64 p', .int .i64 c', .int .i64 n', .slice q l' cp] 28 ∧ Res w' wd.heap.size q L | 10 => sl a 7 = .int .i64 code | _ => True) ⟨_, _, _, _, _, _, _, _, _, _, rfl, (Below.refl _ _).drew⟩ ?_ ?_
  · refine (AllOps.cons ?_ (AllOps.cons ?_ (AllOps.cons ?_ (AllOps.cons ?_ (AllOps.cons ?_ (AllOps.cons ?_ (AllOps.cons ?_ (AllOps.cons ?_ (AllOps.cons ?_ (AllOps.cons ?_ (AllOps.cons ?_ AllOps.nil)))))))))))
    · rintro a w0 ⟨x28, x29, x30, x31, x32, x27, x33, x34, x6, x7, rfl, hB⟩ hd K hK
      go_wp2_with (first | (refine wpList_load_row rfl 24 _ rfl _ rfl 24 _ (0, 0) _ (o_X.below hB ltX) Try.underlying24 rfl (by kernel_rfl) ?_))
      refine hK _ _ ⟨_, _, _, _, _, _, _, _, _, _, rfl, hB⟩ (rfl) ?_
      rintro (_|_|_|_|_|_|_|_|_|_|_|_) hj hn h <;> first | exact h | exact absurd rfl hj | exact waits_no hn (by kernel_rfl)
    · rintro a w0 ⟨x28, x29, x30, x31, x32, x27, x33, x34, x6, x7, rfl, hB⟩ hd K hK
      have d0 : x28 = _ := hd 0 (by kernel_rfl)
      subst d0
      go_wp2_with (first | (go_at_call 16; ((with_reducible refine (htoX.out w0 (hRX.out w0 (b.trans (hB.mono b.size)))).mono ?_); rintro e w2 ⟨gx, rfl, hgx, hOx, hB2⟩)))
      refine hK _ _ ⟨_, _, _, _, _, _, _, _, _, _, rfl, hB.trans (hB2.mono hB.size)⟩ (⟨gx, rfl, Nat.le_trans hB.size hgx, hOx⟩) ?_
      rintro (_|_|_|_|_|_|_|_|_|_|_|_) hj hn h <;> first | exact h | exact absurd rfl hj | (obtain ⟨g, e, hg, hO⟩ := h; exact ⟨g, e, hg, hO.below hB2 hO.lt⟩) | (obtain ⟨q, cp, e, hr⟩ := h; exact ⟨q, cp, e, hr.below hB2 (Nat.le_refl _)⟩) | (obtain ⟨g, e, hg, cs, hcs, hO⟩ := h; exact ⟨g, e, hg, cs, hcs, hO.below hB2 hO.lt⟩) | exact waits_no hn (by kernel_rfl)
    · rintro a w0 ⟨x28, x29, x30, x31, x32, x27, x33, x34, x6, x7, rfl, hB⟩ hd K hK
      go_wp2_with (first | (refine wpList_load_row rfl 24 _ rfl _ rfl 24 _ (0, 0) _ (o_Y.below hB ltY) Try.underlying24 rfl (by kernel_rfl) ?_))
      refine hK _ _ ⟨_, _, _, _, _, _, _, _, _, _, rfl, hB⟩ (rfl) ?_
      rintro (_|_|_|_|_|_|_|_|_|_|_|_) hj hn h <;> first | exact h | exact absurd rfl hj | exact waits_no hn (by kernel_rfl)
    · rintro a w0 ⟨x28, x29, x30, x31, x32, x27, x33, x34, x6, x7, rfl, hB⟩ hd K hK
      have d0 : x30 = _ := hd 2 (by kernel_rfl)
      subst d0
      go_wp2_with (first | (go_at_call 16; ((with_reducible refine (htoY.out w0 (hRY.out w0 (b.trans (hB.mono b.size)))).mono ?_); rintro e w2 ⟨gx, rfl, hgx, hOx, hB2⟩)))
      refine hK _ _ ⟨_, _, _, _, _, _, _, _, _, _, rfl, hB.trans (hB2.mono hB.size)⟩ (⟨gx, rfl, Nat.le_trans hB.size hgx, hOx⟩) ?_
      rintro (_|_|_|_|_|_|_|_|_|_|_|_) hj hn h <;> first | exact h | exact absurd rfl hj | (obtain ⟨g, e, hg, hO⟩ := h; exact ⟨g, e, hg, hO.below hB2 hO.lt⟩) | (obtain ⟨q, cp, e, hr⟩ := h; exact ⟨q, cp, e, hr.below hB2 (Nat.le_refl _)⟩) | (obtain ⟨g, e, hg, cs, hcs, hO⟩ := h; exact ⟨g, e, hg, cs, hcs, hO.below hB2 hO.lt⟩) | exact waits_no hn (by kernel_rfl)
    · rintro a w0 ⟨x28, x29, x30, x31, x32, x27, x33, x34, x6, x7, rfl, hB⟩ hd K hK
      obtain ⟨gx, ex, hgx, hOx⟩ := hd 1 (by kernel_rfl)
      obtain ⟨gy, ey, hgy, hOy⟩ := hd 3 (by kernel_rfl)
      have ex : x29 = _ := ex
      have ey : x31 = _ := ey
      subst ex ey
      go_wp2_with (first | (go_at_call 29; ((with_reducible refine (hS.out gx l gy m w0 (hrdX.out _ _ hOx) (hrdY.out _ _ hOy)).mono ?_); rintro e w2 ⟨⟨qr, cr, rfl, hr⟩, hB2⟩)))
      refine hK _ _ ⟨_, _, _, _, _, _, _, _, _, _, rfl, hB.trans (hB2.mono hB.size)⟩ (⟨qr, cr, rfl, hr.weak hB.size⟩) ?_
      rintro (_|_|_|_|_|_|_|_|_|_|_|_) hj hn h <;> first | exact h | exact absurd rfl hj | (obtain ⟨g, e, hg, hO⟩ := h; exact ⟨g, e, hg, hO.below hB2 hO.lt⟩) | (obtain ⟨q, cp, e, hr⟩ := h; exact ⟨q, cp, e, hr.below hB2 (Nat.le_refl _)⟩) | (obtain ⟨g, e, hg, cs, hcs, hO⟩ := h; exact ⟨g, e, hg, cs, hcs, hO.below hB2 hO.lt⟩) | exact waits_no hn (by kernel_rfl)
    · rintro a w0 ⟨x28, x29, x30, x31, x32, x27, x33, x34, x6, x7, rfl, hB⟩ hd K hK
      obtain ⟨qr, cr, ex, hr⟩ := hd 4 (by kernel_rfl)
      have ex : x32 = _ := ex
      subst ex
      go_wp2
      refine hK _ _ ⟨_, _, _, _, _, _, _, _, _, _, rfl, hB⟩ (⟨qr, cr, rfl, hr⟩) ?_
      rintro (_|_|_|_|_|_|_|_|_|_|_|_) hj hn h <;> first | exact h | exact absurd rfl hj | exact waits_no hn (by kernel_rfl)
    · rintro a w0 ⟨x28, x29, x30, x31, x32, x27, x33, x34, x6, x7, rfl, hB⟩ hd K hK
      obtain ⟨qr, cr, ex, hr⟩ := hd 5 (by kernel_rfl)
      have ex : x27 = _ := ex
      subst ex
      go_wp2
      refine hK _ _ ⟨_, _, _, _, _, _, _, _, _, _, rfl, hB⟩ (⟨qr, cr, rfl, hr⟩) ?_
      rintro (_|_|_|_|_|_|_|_|_|_|_|_) hj hn h <;> first | exact h | exact absurd rfl hj | exact waits_no hn (by kernel_rfl)
    · rintro a w0 ⟨x28, x29, x30, x31, x32, x27, x33, x34, x6, x7, rfl, hB⟩ hd K hK
      obtain ⟨qr, cr, ex, hr⟩ := hd 5 (by kernel_rfl)
      have ex : x27 = _ := ex
      subst ex
      go_wp2
      refine hK _ _ ⟨_, _, _, _, _, _, _, _, _, _, rfl, hB⟩ (rfl) ?_
      rintro (_|_|_|_|_|_|_|_|_|_|_|_) hj hn h <;> first | exact h | exact absurd rfl hj | exact waits_no hn (by kernel_rfl)
    · rintro a w0 ⟨x28, x29, x30, x31, x32, x27, x33, x34, x6, x7, rfl, hB⟩ hd K hK
      go_wp2
      refine hK _ _ ⟨_, _, _, _, _, _, _, _, _, _, rfl, hB.alloc hB.size _⟩ (⟨_, rfl, hB.size, _, rfl, Own.new _ _ _⟩) ?_
      rintro (_|_|_|_|_|_|_|_|_|_|_|_) hj hn h <;> first | exact h | exact absurd rfl hj | (obtain ⟨g, e, hg, hO⟩ := h; exact ⟨g, e, hg, hO.alloc _⟩) | (obtain ⟨q, cp, e, hr⟩ := h; exact ⟨q, cp, e, hr.al _⟩) | exact waits_no hn (by kernel_rfl)
    · rintro a w0 ⟨x28, x29, x30, x31, x32, x27, x33, x34, x6, x7, rfl, hB⟩ hd K hK
      obtain ⟨g, e, hg, cs, hcs, hO⟩ := hd 8 (by kernel_rfl)
      have e : x6 = _ := e
      obtain ⟨qr, cr, ex, hr⟩ := hd 6 (by kernel_rfl)
      have ex : x33 = _ := ex
      subst e ex
      go_wp2_with (first | (refine wpList_store_own rfl 28 _ _ rfl _ _ rfl rfl 28 _ hO (by kernel_rfl) (by rw [hcs]; rfl) (by simp [Value.oneCell']) ?_; intro w2 hO2 hN2))
      refine hK _ _ ⟨_, _, _, _, _, _, _, _, _, _, rfl, hB.trans (hN2.below.mono hg)⟩ (⟨g, qr, cr, rfl, hg, hO2, hr.nly hN2 hO⟩) ?_
      rintro (_|_|_|_|_|_|_|_|_|_|_|_) hj hn h <;> first | exact h | exact absurd rfl hj | (obtain ⟨g3, e, hg, hO3⟩ := h; exact ⟨g3, e, hg, hO3.only hN2 (hO3.neTz hO (by decide))⟩) | (obtain ⟨q, cp, e, hr⟩ := h; exact ⟨q, cp, e, hr.nly hN2 hO⟩) | exact ⟨g, rfl, hg, _, rfl, hO2⟩ | exact waits_no hn (by kernel_rfl)
    · rintro a w0 ⟨x28, x29, x30, x31, x32, x27, x33, x34, x6, x7, rfl, hB⟩ hd K hK
      have d0 : x34 = _ := hd 7 (by kernel_rfl)
      subst d0
      go_wp2
      refine hK _ _ ⟨_, _, _, _, _, _, _, _, _, _, rfl, hB⟩ (rfl) ?_
      rintro (_|_|_|_|_|_|_|_|_|_|_|_) hj hn h <;> first | exact h | exact absurd rfl hj | exact waits_no hn (by kernel_rfl)
  · rintro a w1 ⟨x28, x29, x30, x31, x32, x27, x33, x34, x6, x7, rfl, hB⟩ hF
    have e7 : x7 = _ := hF 10 (by decide)
    obtain ⟨gM, qS, capS, e6, hgM, o_M, r_S⟩ := hF 9 (by decide)
    have e6 : x6 = _ := e6
    subst e7 e6
    clear hF
    replace o_X := o_X.below hB ltX
    replace o_Y := o_Y.below hB ltY
    replace b := b.trans (hB.mono b.size)
    have k_S := Lib.hid (fun (a : Addr) (e : qS = some a) => (show a.block < w1.heap.size from (r_S.blk a e).2))
    have sM := o_M.lt
    have s0 := o_X.lt
    have s1 := o_Y.lt
    clear hB
    clear ltX ltY hszX hszY
    obtain ⟨wA, rfl⟩ : ∃ x, x = w1 := ⟨_, rfl⟩
    go_wp2_with (first
      | (go_at_call 18; ((with_reducible refine (heq.out qI qS capI capS (w13.alloc (.cells #[.int .i64 p', .int .i64 c', .int .i64 n', .slice qI l' capI] 28)) (hrd.out _ _ _ (r_I.al (.cells #[.int .i64 p', .int .i64 c', .int .i64 n', .slice qI l' capI] 28))) (hrd.out _ _ _ (r_S.al (.cells #[.int .i64 p', .int .i64 c', .int .i64 n', .slice qI l' capI] 28)))).mono ?_); rintro e w14 ⟨rfl, hB⟩; replace o_X := (o_X.alloc (.cells #[.int .i64 p', .int .i64 c', .int .i64 n', .slice qI l' capI] 28)).below hB (by have := o_X.lt; simp; omega); replace o_Y := (o_Y.alloc (.cells #[.int .i64 p', .int .i64 c', .int .i64 n', .slice qI l' capI] 28)).below hB (by have := o_Y.lt; simp; omega); replace o_M := (o_M.alloc (.cells #[.int .i64 p', .int .i64 c', .int .i64 n', .slice qI l' capI] 28)).below hB (by have := o_M.lt; simp; omega); replace o_T := (o_T.alloc (.cells #[.int .i64 p', .int .i64 c', .int .i64 n', .slice qI l' capI] 28)).below hB (by have := o_T.lt; simp; omega); replace o_Z := (o_Z.alloc (.cells #[.int .i64 p', .int .i64 c', .int .i64 n', .slice qI l' capI] 28)).below hB (by have := o_Z.lt; simp; omega); replace o_U := (o_U.alloc (.cells #[.int .i64 p', .int .i64 c', .int .i64 n', .slice qI l' capI] 28)).below hB (by have := o_U.lt; simp; omega); replace o_V := (o_V.alloc (.cells #[.int .i64 p', .int .i64 c', .int .i64 n', .slice qI l' capI] 28)).below hB (by have := o_V.lt; simp; omega); have o_G := (Own.new w13 #[.int .i64 p', .int .i64 c', .int .i64 n', .slice qI l' capI] 28).below hB (by simp); replace r_S := (r_S.al (.cells #[.int .i64 p', .int .i64 c', .int .i64 n', .slice qI l' capI] 28)).below hB (Nat.le_refl _); replace r_I := (r_I.al (.cells #[.int .i64 p', .int .i64 c', .int .i64 n', .slice qI l' capI] 28)).below hB (Nat.le_refl _); replace b := (b.alloc b.size (.cells #[.int .i64 p', .int .i64 c', .int .i64 n', .slice qI l' capI] 28)).trans (hB.mono (by have := b.size; simp; omega)); clear hB))
      | (refine wpList_load_row rfl 28 _ rfl _ rfl 28 _ (0, 0) _ (o_M.alloc (.cells #[.int .i64 p', .int .i64 c', .int .i64 n', .slice qI l' capI] 28)) Try.underlying28 rfl (by kernel_rfl) ?_)
      | (refine wpList_load_row rfl 28 _ rfl _ rfl 28 _ (0, 0) _ (Own.new w13 #[.int .i64 p', .int .i64 c', .int .i64 n', .slice qI l' capI] 28) Try.underlying28 rfl (by kernel_rfl) ?_)
      | (go_at_call 30; ((with_reducible refine (hI.out g4 l g5 m (w12.alloc (.cells #[.int .i64 p2, .int .i64 c2, .int .i64 n2, .slice (some ⟨g5, 0, none⟩) m m] 28)) (hrdX.out _ _ (o_T.alloc _)) (hrdY.out _ _ (o_U.alloc _))).mono ?_); rintro e w13 ⟨⟨qI, capI, rfl, r_I⟩, hB⟩; replace o_X := (o_X.alloc (.cells #[.int .i64 p2, .int .i64 c2, .int .i64 n2, .slice (some ⟨g5, 0, none⟩) m m] 28)).below hB (by have := o_X.lt; simp; omega); replace o_Y := (o_Y.alloc (.cells #[.int .i64 p2, .int .i64 c2, .int .i64 n2, .slice (some ⟨g5, 0, none⟩) m m] 28)).below hB (by have := o_Y.lt; simp; omega); replace o_M := (o_M.alloc (.cells #[.int .i64 p2, .int .i64 c2, .int .i64 n2, .slice (some ⟨g5, 0, none⟩) m m] 28)).below hB (by have := o_M.lt; simp; omega); replace o_T := (o_T.alloc (.cells #[.int .i64 p2, .int .i64 c2, .int .i64 n2, .slice (some ⟨g5, 0, none⟩) m m] 28)).below hB (by have := o_T.lt; simp; omega); replace o_Z := (o_Z.alloc (.cells #[.int .i64 p2, .int .i64 c2, .int .i64 n2, .slice (some ⟨g5, 0, none⟩) m m] 28)).below hB (by have := o_Z.lt; simp; omega); replace o_U := (o_U.alloc (.cells #[.int .i64 p2, .int .i64 c2, .int .i64 n2, .slice (some ⟨g5, 0, none⟩) m m] 28)).below hB (by have := o_U.lt; simp; omega); have o_V := (Own.new w12 #[.int .i64 p2, .int .i64 c2, .int .i64 n2, .slice (some ⟨g5, 0, none⟩) m m] 28).below hB (by simp); replace r_S := (r_S.al (.cells #[.int .i64 p2, .int .i64 c2, .int .i64 n2, .slice (some ⟨g5, 0, none⟩) m m] 28)).below hB (Nat.le_refl _); replace b := (b.alloc b.size (.cells #[.int .i64 p2, .int .i64 c2, .int .i64 n2, .slice (some ⟨g5, 0, none⟩) m m] 28)).trans (hB.mono (by have := b.size; simp; omega)); have k_I := Lib.hid (fun (a : Addr) (e : qI = some a) => show w12.heap.size + 1 ≤ a.block ∧ a.block < w13.heap.size from by have := r_I.blk a e; simpa using this); have s5 := o_V.lt; clear hB))
      | (refine wpList_load_row rfl 28 _ rfl _ rfl 28 _ (0, 0) _ (Own.new w12 #[.int .i64 p2, .int .i64 c2, .int .i64 n2, .slice (some ⟨g5, 0, none⟩) m m] 28) Try.underlying28 rfl (by kernel_rfl) ?_)
      | (refine wpList_load_row rfl 28 _ rfl _ rfl 28 _ (0, 0) _ (o_Z.alloc (.cells #[.int .i64 p2, .int .i64 c2, .int .i64 n2, .slice (some ⟨g5, 0, none⟩) m m] 28)) Try.underlying28 rfl (by kernel_rfl) ?_)
      | (go_at_call 16; ((with_reducible refine (htoY.out (w11.alloc (.cells #[.int .i64 p, .int .i64 c, .int .i64 n, .slice (some ⟨g4, 0, none⟩) l l] 28)) (hRY.out _ (b.alloc b.size _))).mono ?_); rintro e w12 ⟨g5, rfl, hg5, o_U, hB⟩; replace o_X := (o_X.alloc (.cells #[.int .i64 p, .int .i64 c, .int .i64 n, .slice (some ⟨g4, 0, none⟩) l l] 28)).below hB (by have := o_X.lt; simp; omega); replace o_Y := (o_Y.alloc (.cells #[.int .i64 p, .int .i64 c, .int .i64 n, .slice (some ⟨g4, 0, none⟩) l l] 28)).below hB (by have := o_Y.lt; simp; omega); replace o_M := (o_M.alloc (.cells #[.int .i64 p, .int .i64 c, .int .i64 n, .slice (some ⟨g4, 0, none⟩) l l] 28)).below hB (by have := o_M.lt; simp; omega); replace o_T := (o_T.alloc (.cells #[.int .i64 p, .int .i64 c, .int .i64 n, .slice (some ⟨g4, 0, none⟩) l l] 28)).below hB (by have := o_T.lt; simp; omega); have o_Z := (Own.new w11 #[.int .i64 p, .int .i64 c, .int .i64 n, .slice (some ⟨g4, 0, none⟩) l l] 28).below hB (by simp); replace r_S := (r_S.al (.cells #[.int .i64 p, .int .i64 c, .int .i64 n, .slice (some ⟨g4, 0, none⟩) l l] 28)).below hB (Nat.le_refl _); replace b := (b.alloc b.size (.cells #[.int .i64 p, .int .i64 c, .int .i64 n, .slice (some ⟨g4, 0, none⟩) l l] 28)).trans (hB.mono (by have := b.size; simp; omega)); have hg5b : w11.heap.size + 1 ≤ g5 := (by simpa using hg5); have s3 := o_U.lt; have s4 := o_Z.lt; clear hB))
      | (refine wpList_load_row rfl 24 _ rfl _ rfl 24 _ (0, 0) _ (o_Y.alloc (.cells #[.int .i64 p, .int .i64 c, .int .i64 n, .slice (some ⟨g4, 0, none⟩) l l] 28)) Try.underlying24 rfl (by kernel_rfl) ?_)
      | (go_at_call 16; ((with_reducible refine (htoX.out wA (hRX.out _ b)).mono ?_); rintro e w11 ⟨g4, rfl, hg4, o_T, hB⟩; replace o_X := o_X.below hB o_X.lt; replace o_Y := o_Y.below hB o_Y.lt; replace o_M := o_M.below hB o_M.lt; replace r_S := r_S.below hB (Nat.le_refl _); replace b := b.trans (hB.mono b.size); have s2 := o_T.lt; clear hB))
      | (refine wpList_load_row rfl 24 _ rfl _ rfl 24 _ (0, 0) _ (o_X) Try.underlying24 rfl (by kernel_rfl) ?_))
    have hZc := Lib.hid (fun wd (hd : Below w14.heap.size w14 wd) => own4 (o_Z.below hd o_Z.lt))
    have hXc := Lib.hid (fun wd (hd : Below w14.heap.size w14 wd) => own4 (o_X.below hd o_X.lt))
    refine wp_region_on (fun w' => Below w14.heap.size w14 w') [0, 1] [2] 3 (by kernel_rfl) (by kernel_rfl) (Below.drewN (Below.refl _ _) 1) ?_
    simp only [List.map_cons, List.map_nil, opN_zero, opN_succ, List.drop_succ_cons, List.drop_zero]
    (apply wpOn_step; · (intro wd hS' K hK; obtain ⟨k0, k1, k2, k3⟩ := hZc.out wd hS'; clear hS'; go_simp; exact hK))
    (apply wpOn_step; · (intro wd hS' K hK; obtain ⟨k0, k1, k2, k3⟩ := hXc.out wd hS'; clear hS'; go_simp; exact hK))
    refine wpOn_nil ?_
    intro x8 hB8
    replace o_X := o_X.below hB8 o_X.lt
    replace o_Y := o_Y.below hB8 o_Y.lt
    replace o_M := o_M.below hB8 o_M.lt
    replace o_T := o_T.below hB8 o_T.lt
    replace o_Z := o_Z.below hB8 o_Z.lt
    replace o_U := o_U.below hB8 o_U.lt
    replace o_V := o_V.below hB8 o_V.lt
    replace o_G := o_G.below hB8 o_G.lt
    replace r_S := r_S.below hB8 (Nat.le_refl _)
    replace r_I := r_I.below hB8 (Nat.le_refl _)
    replace b := b.trans (hB8.mono b.size)
    refine wpMid_step (fun K hK => ?_)
    go_wp2_with (first
      | (go_at_call 16; ((with_reducible refine (htoX.out x8 (hRX.out _ b)).mono ?_); rintro e w15 ⟨g9, rfl, hg9, o_N, hB⟩; replace o_X := o_X.below hB o_X.lt; replace o_Y := o_Y.below hB o_Y.lt; replace o_M := o_M.below hB o_M.lt; replace o_T := o_T.below hB o_T.lt; replace o_Z := o_Z.below hB o_Z.lt; replace o_U := o_U.below hB o_U.lt; replace o_V := o_V.below hB o_V.lt; replace o_G := o_G.below hB o_G.lt; replace r_S := r_S.below hB (Nat.le_refl _); replace r_I := r_I.below hB (Nat.le_refl _); replace b := b.trans (hB.mono b.size); have hBq := hB8.trans (hB.mono hB8.size); clear hB)))
    refine hK _ _ hBq ?_
    clear hK K hBq hB8 hZc hXc
    refine wpMid_nil ?_
    go_wp2_with (first
      | (go_at_call 18; ((with_reducible refine (heqX.out g4 g9 w15 (hrdX.out _ _ o_T) (hrdX.out _ _ o_N)).mono ?_); rintro e w16 ⟨rfl, hB⟩; replace o_X := o_X.below hB o_X.lt; replace o_Y := o_Y.below hB o_Y.lt; replace o_M := o_M.below hB o_M.lt; replace o_T := o_T.below hB o_T.lt; replace o_Z := o_Z.below hB o_Z.lt; replace o_U := o_U.below hB o_U.lt; replace o_V := o_V.below hB o_V.lt; replace o_G := o_G.below hB o_G.lt; replace o_N := o_N.below hB o_N.lt; replace r_S := r_S.below hB (Nat.le_refl _); replace r_I := r_I.below hB (Nat.le_refl _); replace b := b.trans (hB.mono b.size); clear hB)))
    have hZc := Lib.hid (fun wd (hd : Below w16.heap.size w16 wd) => own4 (o_V.below hd o_V.lt))
    have hXc := Lib.hid (fun wd (hd : Below w16.heap.size w16 wd) => own4 (o_Y.below hd o_Y.lt))
    refine wp_region_on (fun w' => Below w16.heap.size w16 w') [0, 1] [2] 3 (by kernel_rfl) (by kernel_rfl) (Below.drewN (Below.refl _ _) 1) ?_
    simp only [List.map_cons, List.map_nil, opN_zero, opN_succ, List.drop_succ_cons, List.drop_zero]
    (apply wpOn_step; · (intro wd hS' K hK; obtain ⟨k0, k1, k2, k3⟩ := hZc.out wd hS'; clear hS'; go_simp; exact hK))
    (apply wpOn_step; · (intro wd hS' K hK; obtain ⟨k0, k1, k2, k3⟩ := hXc.out wd hS'; clear hS'; go_simp; exact hK))
    refine wpOn_nil ?_
    intro y8 hC8
    replace o_X := o_X.below hC8 o_X.lt
    replace o_Y := o_Y.below hC8 o_Y.lt
    replace o_M := o_M.below hC8 o_M.lt
    replace o_T := o_T.below hC8 o_T.lt
    replace o_Z := o_Z.below hC8 o_Z.lt
    replace o_U := o_U.below hC8 o_U.lt
    replace o_V := o_V.below hC8 o_V.lt
    replace o_G := o_G.below hC8 o_G.lt
    replace r_S := r_S.below hC8 (Nat.le_refl _)
    replace r_I := r_I.below hC8 (Nat.le_refl _)
    replace b := b.trans (hC8.mono b.size)
    refine wpMid_step (fun K hK => ?_)
    go_wp2_with (first
      | (go_at_call 16; ((with_reducible refine (htoY.out y8 (hRY.out _ b)).mono ?_); rintro e w17 ⟨g10, rfl, hg10, o_N, hB⟩; replace o_X := o_X.below hB o_X.lt; replace o_Y := o_Y.below hB o_Y.lt; replace o_M := o_M.below hB o_M.lt; replace o_T := o_T.below hB o_T.lt; replace o_Z := o_Z.below hB o_Z.lt; replace o_U := o_U.below hB o_U.lt; replace o_V := o_V.below hB o_V.lt; replace o_G := o_G.below hB o_G.lt; replace r_S := r_S.below hB (Nat.le_refl _); replace r_I := r_I.below hB (Nat.le_refl _); replace b := b.trans (hB.mono b.size); have hBq := hC8.trans (hB.mono hC8.size); clear hB)))
    refine hK _ _ hBq ?_
    clear hK K hBq hC8 hZc hXc
    refine wpMid_nil ?_
    go_upto_region 31 with (first
      | (go_at_call 20; ((with_reducible refine (hhd.out qI capI w22 m_I).mono ?_); rintro e w23 ⟨rfl, hB⟩; replace o_X := o_X.below hB o_X.lt; replace o_Y := o_Y.below hB o_Y.lt; replace o_M := o_M.below hB o_M.lt; replace o_Z := o_Z.below hB o_Z.lt; replace o_V := o_V.below hB o_V.lt; replace o_G := o_G.below hB o_G.lt; replace r_S := r_S.below hB (Nat.le_refl _); replace m_I := m_I.below hB (Nat.le_refl _); replace b := b.trans (hB.mono b.size); clear hB))
      | (refine wpList_load_row rfl 28 _ rfl _ rfl 28 _ (0, 0) _ (o_G) Try.underlying28 rfl (by kernel_rfl) ?_)
      | (go_at_call 19; ((with_reducible refine (hmk.out qI capI _ w21 r_I).mono ?_); rintro e w22 ⟨rfl, m_I, F⟩; replace o_X := F.own o_X (fun a e => by have := k_I.out a e; omega); replace o_Y := F.own o_Y (fun a e => by have := k_I.out a e; omega); replace o_M := F.own o_M (fun a e => by have := k_I.out a e; omega); replace o_Z := F.own o_Z (fun a e => by have := k_I.out a e; omega); replace o_V := F.own o_V (fun a e => by have := k_I.out a e; omega); replace o_G := F.own o_G (fun a e => by have := k_I.out a e; omega); replace r_S := F.res r_S (fun a a' e e' => by have := k_I.out a e; have := k_S.out a' e'; omega); replace b := b.trans (F.below w.heap.size b.size (fun a e => by have := k_I.out a e; omega)); clear F))
      | (refine wpList_load_row rfl 28 _ rfl _ rfl 28 _ (0, 0) _ (o_G) Try.underlying28 rfl (by kernel_rfl) ?_)
      | (go_at_call 18; ((with_reducible refine (heq.out qI qS capI capS w20 (hrd.out _ _ _ r_I) (hrd.out _ _ _ r_S)).mono ?_); rintro e w21 ⟨rfl, hB⟩; replace o_X := o_X.below hB o_X.lt; replace o_Y := o_Y.below hB o_Y.lt; replace o_M := o_M.below hB o_M.lt; replace o_Z := o_Z.below hB o_Z.lt; replace o_V := o_V.below hB o_V.lt; replace o_G := o_G.below hB o_G.lt; replace r_S := r_S.below hB (Nat.le_refl _); replace r_I := r_I.below hB (Nat.le_refl _); replace b := b.trans (hB.mono b.size); clear hB))
      | (refine wpList_load_row rfl 28 _ rfl _ rfl 28 _ (0, 0) _ (o_M) Try.underlying28 rfl (by kernel_rfl) ?_)
      | (refine wpList_load_row rfl 28 _ rfl _ rfl 28 _ (0, 0) _ (o_G) Try.underlying28 rfl (by kernel_rfl) ?_)
      | (refine wpList_load_row_if rfl 28 _ rfl _ rfl 28 _ _ (o_M) Try.underlying28 rfl (by kernel_rfl) ?_)
      | (refine wpList_load_row_if rfl 28 _ rfl _ rfl 28 _ _ (o_G) Try.underlying28 rfl (by kernel_rfl) ?_)
      | (go_at_call 19; ((with_reducible refine (hmkY.out g5 w19 o_U).mono ?_); rintro e w20 ⟨rfl, F⟩; replace o_X := F.own o_X (fun a e => by have eb : g5 = a.block := congrArg Addr.block (Option.some.inj e); omega); replace o_Y := F.own o_Y (fun a e => by have eb : g5 = a.block := congrArg Addr.block (Option.some.inj e); omega); replace o_M := F.own o_M (fun a e => by have eb : g5 = a.block := congrArg Addr.block (Option.some.inj e); omega); replace o_Z := F.own o_Z (fun a e => by have eb : g5 = a.block := congrArg Addr.block (Option.some.inj e); omega); replace o_V := F.own o_V (fun a e => by have eb : g5 = a.block := congrArg Addr.block (Option.some.inj e); omega); replace o_G := F.own o_G (fun a e => by have eb : g5 = a.block := congrArg Addr.block (Option.some.inj e); omega); replace r_S := F.res r_S (fun a a' e e' => by have eb : g5 = a.block := congrArg Addr.block (Option.some.inj e); have := k_S.out a' e'; omega); replace r_I := F.res r_I (fun a a' e e' => by have eb : g5 = a.block := congrArg Addr.block (Option.some.inj e); have := k_I.out a' e'; omega); replace b := b.trans (F.below w.heap.size b.size (fun a e => by have eb : g5 = a.block := congrArg Addr.block (Option.some.inj e); omega)); clear F))
      | (refine wpList_load_row rfl 28 _ rfl _ rfl 28 _ (0, 0) _ (o_V) Try.underlying28 rfl (by kernel_rfl) ?_)
      | (go_at_call 19; ((with_reducible refine (hmkX.out g4 w18 o_T).mono ?_); rintro e w19 ⟨rfl, F⟩; replace o_X := F.own o_X (fun a e => by have eb : g4 = a.block := congrArg Addr.block (Option.some.inj e); omega); replace o_Y := F.own o_Y (fun a e => by have eb : g4 = a.block := congrArg Addr.block (Option.some.inj e); omega); replace o_M := F.own o_M (fun a e => by have eb : g4 = a.block := congrArg Addr.block (Option.some.inj e); omega); replace o_Z := F.own o_Z (fun a e => by have eb : g4 = a.block := congrArg Addr.block (Option.some.inj e); omega); replace o_U := F.own o_U (fun a e => by have eb : g4 = a.block := congrArg Addr.block (Option.some.inj e); omega); replace o_V := F.own o_V (fun a e => by have eb : g4 = a.block := congrArg Addr.block (Option.some.inj e); omega); replace o_G := F.own o_G (fun a e => by have eb : g4 = a.block := congrArg Addr.block (Option.some.inj e); omega); replace r_S := F.res r_S (fun a a' e e' => by have eb : g4 = a.block := congrArg Addr.block (Option.some.inj e); have := k_S.out a' e'; omega); replace r_I := F.res r_I (fun a a' e e' => by have eb : g4 = a.block := congrArg Addr.block (Option.some.inj e); have := k_I.out a' e'; omega); replace b := b.trans (F.below w.heap.size b.size (fun a e => by have eb : g4 = a.block := congrArg Addr.block (Option.some.inj e); omega)); clear F))
      | (refine wpList_load_row rfl 28 _ rfl _ rfl 28 _ (0, 0) _ (o_Z) Try.underlying28 rfl (by kernel_rfl) ?_)
      | (go_at_call 18; ((with_reducible refine (heqY.out g5 g10 w17 (hrdY.out _ _ o_U) (hrdY.out _ _ o_N)).mono ?_); rintro e w18 ⟨rfl, hB⟩; replace o_X := o_X.below hB o_X.lt; replace o_Y := o_Y.below hB o_Y.lt; replace o_M := o_M.below hB o_M.lt; replace o_T := o_T.below hB o_T.lt; replace o_Z := o_Z.below hB o_Z.lt; replace o_U := o_U.below hB o_U.lt; replace o_V := o_V.below hB o_V.lt; replace o_G := o_G.below hB o_G.lt; replace o_N := o_N.below hB o_N.lt; replace r_S := r_S.below hB (Nat.le_refl _); replace r_I := r_I.below hB (Nat.le_refl _); replace b := b.trans (hB.mono b.size); clear hB)))
    obtain ⟨we, rfl⟩ : ∃ x, x = w23 := ⟨_, rfl⟩
    have ltX := o_X.lt
    have ltY := o_Y.lt
    have ltM := o_M.lt
    have ltG := o_G.lt
    refine gen_fr (fun jx => ⟨List.toArray [.agg #[.int .i64 p, .int .i64 c, .int .i64 n, .slice q1 l cap1], .agg #[.int .i64 p2, .int .i64 c2, .int .i64 n2, .slice q2 m cap2], .pointer (some ⟨w.heap.size, 0, none⟩), .pointer (some ⟨w.heap.size + 1, 0, none⟩), .bool false, .int .i64 z2, .pointer (some ⟨gM, 0, none⟩), .int .i64 code, .pointer (some ⟨w11.heap.size, 0, none⟩), .pointer (some ⟨w12.heap.size, 0, none⟩), .pointer (some ⟨w13.heap.size, 0, none⟩), .int .i64 code, .int .i64 y2, .int .i64 z', .int .i64 z', undef, undef, jx 17, jx 18, jx 19, jx 20, jx 21, jx 22, jx 23, jx 24, jx 25, jx 26, jx 27, jx 28, jx 29, jx 30, jx 31, jx 32, jx 33, jx 34, jx 35, jx 36, jx 37, jx 38, jx 39, jx 40, jx 41, jx 42, jx 43, jx 44, jx 45, jx 46, jx 47, jx 48, jx 49, jx 50, jx 51, jx 52, jx 53, jx 54, jx 55, jx 56, jx 57, jx 58, jx 59, jx 60, jx 61, jx 62, jx 63, jx 64, jx 65, jx 66, jx 67, jx 68, jx 69, jx 70, jx 71, jx 72, jx 73, jx 74, jx 75, jx 76, jx 77, jx 78, jx 79, jx 80, jx 81, jx 82, jx 83, jx 84, jx 85, jx 86, jx 87, jx 88, jx 89, jx 90, jx 91, jx 92, jx 93, undef, undef, undef, undef, undef, undef, undef, undef, undef, undef, undef, undef, undef, undef, undef, undef, undef, undef, undef, undef, undef, undef, undef, undef, undef], []⟩) ?_ (by rfl)
    intro jx
    refine wp_region_facts (by kernel_rfl) (by kernel_rfl) (fun a w' => ∃ x95 x96 x97 x98 x99 x94 x100 x101 x15 x16 : Value, a = ⟨List.toArray [.agg #[.int .i64 p, .int .i64 c, .int .i64 n, .slice q1 l cap1], .agg #[.int .i64 p2, .int .i64 c2, .int .i64 n2, .slice q2 m cap2], .pointer (some ⟨w.heap.size, 0, none⟩), .pointer (some ⟨w.heap.size + 1, 0, none⟩), .bool false, .int .i64 z2, .pointer (some ⟨gM, 0, none⟩), .int .i64 code, .pointer (some ⟨w11.heap.size, 0, none⟩), .pointer (some ⟨w12.heap.size, 0, none⟩), .pointer (some ⟨w13.heap.size, 0, none⟩), .int .i64 code, .int .i64 y2, .int .i64 z', .int .i64 z', x15, x16, jx 17, jx 18, jx 19, jx 20, jx 21, jx 22, jx 23, jx 24, jx 25, jx 26, jx 27, jx 28, jx 29, jx 30, jx 31, jx 32, jx 33, jx 34, jx 35, jx 36, jx 37, jx 38, jx 39, jx 40, jx 41, jx 42, jx 43, jx 44, jx 45, jx 46, jx 47, jx 48, jx 49, jx 50, jx 51, jx 52, jx 53, jx 54, jx 55, jx 56, jx 57, jx 58, jx 59, jx 60, jx 61, jx 62, jx 63, jx 64, jx 65, jx 66, jx 67, jx 68, jx 69, jx 70, jx 71, jx 72, jx 73, jx 74, jx 75, jx 76, jx 77, jx 78, jx 79, jx 80, jx 81, jx 82, jx 83, jx 84, jx 85, jx 86, jx 87, jx 88, jx 89, jx 90, jx 91, jx 92, jx 93, x94, x95, x96, x97, x98, x99, x100, x101, undef, undef, undef, undef, undef, undef, undef, undef, undef, undef, undef, undef, undef, undef, undef, undef, undef], []⟩ ∧ Below we.heap.size we w') (fun jF a w' => match jF with | 0 => sl a 95 = .agg #[.int .i64 p, .int .i64 c, .int .i64 n, .slice q1 l cap1] | 1 => ∃ g : Nat, sl a 96 = .agg #[.int .i64 p, .int .i64 c, .int .i64 n, .slice (some ⟨g, 0, none⟩) l l] ∧ we.heap.size ≤ g ∧ Own w' g (tsl xs).toArray 71 | 2 => sl a 97 = .agg #[.int .i64 p2, .int .i64 c2, .int .i64 n2, .slice q2 m cap2] | 3 => ∃ g : Nat, sl a 98 = .agg #[.int .i64 p2, .int .i64 c2, .int .i64 n2, .slice (some ⟨g, 0, none⟩) m m] ∧ we.heap.size ≤ g ∧ Own w' g (tsl ys).toArray 71 | 4 => ∃ (q : Option Addr) (cp : Nat), sl a 99 = .tuple #[.agg #[.int .i64 p', .int .i64 c', .int .i64 n', .slice q l' cp], .int .i64 code] ∧ Res w' we.heap.size q L | 5 => ∃ (q : Option Addr) (cp : Nat), sl a 94 = .tuple #[.agg #[.int .i64 p', .int .i64 c', .int .i64 n', .slice q l' cp], .int .i64 code] ∧ Res w' we.heap.size q L | 6 => ∃ (q : Option Addr) (cp : Nat), sl a 100 = .agg #[.int .i64 p', .int .i64 c', .int .i64 n', .slice q l' cp] ∧ Res w' we.heap.size q L | 7 => sl a 101 = .int .i64 code | 8 => ∃ g : Nat, sl a 15 = .pointer (some ⟨g, 0, none⟩) ∧ we.heap.size ≤ g ∧ ∃ cs : Array Value, cs.size = 4 ∧ Own w' g cs 28 | 9 => ∃ (g : Nat) (q : Option Addr) (cp : Nat), sl a 15 = .pointer (some ⟨g, 0, none⟩) ∧ we.heap.size ≤ g ∧ Own w' g #[.int .i64 p', .int .i64 c', .int .i64 n', .slice q l' cp] 28 ∧ Res w' we.heap.size q L | 10 => sl a 16 = .int .i64 code | _ => True) ⟨_, _, _, _, _, _, _, _, _, _, rfl, (Below.refl _ _).drew⟩ ?_ ?_
    · refine (AllOps.cons ?_ (AllOps.cons ?_ (AllOps.cons ?_ (AllOps.cons ?_ (AllOps.cons ?_ (AllOps.cons ?_ (AllOps.cons ?_ (AllOps.cons ?_ (AllOps.cons ?_ (AllOps.cons ?_ (AllOps.cons ?_ AllOps.nil)))))))))))
      · rintro a w0 ⟨x95, x96, x97, x98, x99, x94, x100, x101, x15, x16, rfl, hB⟩ hd K hK
        go_wp2_with (first | (refine wpList_load_row rfl 24 _ rfl _ rfl 24 _ (0, 0) _ (o_X.below hB ltX) Try.underlying24 rfl (by kernel_rfl) ?_))
        refine hK _ _ ⟨_, _, _, _, _, _, _, _, _, _, rfl, hB⟩ (rfl) ?_
        rintro (_|_|_|_|_|_|_|_|_|_|_|_) hj hn h <;> first | exact h | exact absurd rfl hj | exact waits_no hn (by kernel_rfl)
      · rintro a w0 ⟨x95, x96, x97, x98, x99, x94, x100, x101, x15, x16, rfl, hB⟩ hd K hK
        have d0 : x95 = _ := hd 0 (by kernel_rfl)
        subst d0
        go_wp2_with (first | (go_at_call 16; ((with_reducible refine (htoX.out w0 (hRX.out w0 (b.trans (hB.mono b.size)))).mono ?_); rintro e w2 ⟨gx, rfl, hgx, hOx, hB2⟩)))
        refine hK _ _ ⟨_, _, _, _, _, _, _, _, _, _, rfl, hB.trans (hB2.mono hB.size)⟩ (⟨gx, rfl, Nat.le_trans hB.size hgx, hOx⟩) ?_
        rintro (_|_|_|_|_|_|_|_|_|_|_|_) hj hn h <;> first | exact h | exact absurd rfl hj | (obtain ⟨g, e, hg, hO⟩ := h; exact ⟨g, e, hg, hO.below hB2 hO.lt⟩) | (obtain ⟨q, cp, e, hr⟩ := h; exact ⟨q, cp, e, hr.below hB2 (Nat.le_refl _)⟩) | (obtain ⟨g, e, hg, cs, hcs, hO⟩ := h; exact ⟨g, e, hg, cs, hcs, hO.below hB2 hO.lt⟩) | exact waits_no hn (by kernel_rfl)
      · rintro a w0 ⟨x95, x96, x97, x98, x99, x94, x100, x101, x15, x16, rfl, hB⟩ hd K hK
        go_wp2_with (first | (refine wpList_load_row rfl 24 _ rfl _ rfl 24 _ (0, 0) _ (o_Y.below hB ltY) Try.underlying24 rfl (by kernel_rfl) ?_))
        refine hK _ _ ⟨_, _, _, _, _, _, _, _, _, _, rfl, hB⟩ (rfl) ?_
        rintro (_|_|_|_|_|_|_|_|_|_|_|_) hj hn h <;> first | exact h | exact absurd rfl hj | exact waits_no hn (by kernel_rfl)
      · rintro a w0 ⟨x95, x96, x97, x98, x99, x94, x100, x101, x15, x16, rfl, hB⟩ hd K hK
        have d0 : x97 = _ := hd 2 (by kernel_rfl)
        subst d0
        go_wp2_with (first | (go_at_call 16; ((with_reducible refine (htoY.out w0 (hRY.out w0 (b.trans (hB.mono b.size)))).mono ?_); rintro e w2 ⟨gx, rfl, hgx, hOx, hB2⟩)))
        refine hK _ _ ⟨_, _, _, _, _, _, _, _, _, _, rfl, hB.trans (hB2.mono hB.size)⟩ (⟨gx, rfl, Nat.le_trans hB.size hgx, hOx⟩) ?_
        rintro (_|_|_|_|_|_|_|_|_|_|_|_) hj hn h <;> first | exact h | exact absurd rfl hj | (obtain ⟨g, e, hg, hO⟩ := h; exact ⟨g, e, hg, hO.below hB2 hO.lt⟩) | (obtain ⟨q, cp, e, hr⟩ := h; exact ⟨q, cp, e, hr.below hB2 (Nat.le_refl _)⟩) | (obtain ⟨g, e, hg, cs, hcs, hO⟩ := h; exact ⟨g, e, hg, cs, hcs, hO.below hB2 hO.lt⟩) | exact waits_no hn (by kernel_rfl)
      · rintro a w0 ⟨x95, x96, x97, x98, x99, x94, x100, x101, x15, x16, rfl, hB⟩ hd K hK
        obtain ⟨gx, ex, hgx, hOx⟩ := hd 1 (by kernel_rfl)
        obtain ⟨gy, ey, hgy, hOy⟩ := hd 3 (by kernel_rfl)
        have ex : x96 = _ := ex
        have ey : x98 = _ := ey
        subst ex ey
        go_wp2_with (first | (go_at_call 30; ((with_reducible refine (hI.out gx l gy m w0 (hrdX.out _ _ hOx) (hrdY.out _ _ hOy)).mono ?_); rintro e w2 ⟨⟨qr, cr, rfl, hr⟩, hB2⟩)))
        refine hK _ _ ⟨_, _, _, _, _, _, _, _, _, _, rfl, hB.trans (hB2.mono hB.size)⟩ (⟨qr, cr, rfl, hr.weak hB.size⟩) ?_
        rintro (_|_|_|_|_|_|_|_|_|_|_|_) hj hn h <;> first | exact h | exact absurd rfl hj | (obtain ⟨g, e, hg, hO⟩ := h; exact ⟨g, e, hg, hO.below hB2 hO.lt⟩) | (obtain ⟨q, cp, e, hr⟩ := h; exact ⟨q, cp, e, hr.below hB2 (Nat.le_refl _)⟩) | (obtain ⟨g, e, hg, cs, hcs, hO⟩ := h; exact ⟨g, e, hg, cs, hcs, hO.below hB2 hO.lt⟩) | exact waits_no hn (by kernel_rfl)
      · rintro a w0 ⟨x95, x96, x97, x98, x99, x94, x100, x101, x15, x16, rfl, hB⟩ hd K hK
        obtain ⟨qr, cr, ex, hr⟩ := hd 4 (by kernel_rfl)
        have ex : x99 = _ := ex
        subst ex
        go_wp2
        refine hK _ _ ⟨_, _, _, _, _, _, _, _, _, _, rfl, hB⟩ (⟨qr, cr, rfl, hr⟩) ?_
        rintro (_|_|_|_|_|_|_|_|_|_|_|_) hj hn h <;> first | exact h | exact absurd rfl hj | exact waits_no hn (by kernel_rfl)
      · rintro a w0 ⟨x95, x96, x97, x98, x99, x94, x100, x101, x15, x16, rfl, hB⟩ hd K hK
        obtain ⟨qr, cr, ex, hr⟩ := hd 5 (by kernel_rfl)
        have ex : x94 = _ := ex
        subst ex
        go_wp2
        refine hK _ _ ⟨_, _, _, _, _, _, _, _, _, _, rfl, hB⟩ (⟨qr, cr, rfl, hr⟩) ?_
        rintro (_|_|_|_|_|_|_|_|_|_|_|_) hj hn h <;> first | exact h | exact absurd rfl hj | exact waits_no hn (by kernel_rfl)
      · rintro a w0 ⟨x95, x96, x97, x98, x99, x94, x100, x101, x15, x16, rfl, hB⟩ hd K hK
        obtain ⟨qr, cr, ex, hr⟩ := hd 5 (by kernel_rfl)
        have ex : x94 = _ := ex
        subst ex
        go_wp2
        refine hK _ _ ⟨_, _, _, _, _, _, _, _, _, _, rfl, hB⟩ (rfl) ?_
        rintro (_|_|_|_|_|_|_|_|_|_|_|_) hj hn h <;> first | exact h | exact absurd rfl hj | exact waits_no hn (by kernel_rfl)
      · rintro a w0 ⟨x95, x96, x97, x98, x99, x94, x100, x101, x15, x16, rfl, hB⟩ hd K hK
        go_wp2
        refine hK _ _ ⟨_, _, _, _, _, _, _, _, _, _, rfl, hB.alloc hB.size _⟩ (⟨_, rfl, hB.size, _, rfl, Own.new _ _ _⟩) ?_
        rintro (_|_|_|_|_|_|_|_|_|_|_|_) hj hn h <;> first | exact h | exact absurd rfl hj | (obtain ⟨g, e, hg, hO⟩ := h; exact ⟨g, e, hg, hO.alloc _⟩) | (obtain ⟨q, cp, e, hr⟩ := h; exact ⟨q, cp, e, hr.al _⟩) | exact waits_no hn (by kernel_rfl)
      · rintro a w0 ⟨x95, x96, x97, x98, x99, x94, x100, x101, x15, x16, rfl, hB⟩ hd K hK
        obtain ⟨g, e, hg, cs, hcs, hO⟩ := hd 8 (by kernel_rfl)
        have e : x15 = _ := e
        obtain ⟨qr, cr, ex, hr⟩ := hd 6 (by kernel_rfl)
        have ex : x100 = _ := ex
        subst e ex
        go_wp2_with (first | (refine wpList_store_own rfl 28 _ _ rfl _ _ rfl rfl 28 _ hO (by kernel_rfl) (by rw [hcs]; rfl) (by simp [Value.oneCell']) ?_; intro w2 hO2 hN2))
        refine hK _ _ ⟨_, _, _, _, _, _, _, _, _, _, rfl, hB.trans (hN2.below.mono hg)⟩ (⟨g, qr, cr, rfl, hg, hO2, hr.nly hN2 hO⟩) ?_
        rintro (_|_|_|_|_|_|_|_|_|_|_|_) hj hn h <;> first | exact h | exact absurd rfl hj | (obtain ⟨g3, e, hg, hO3⟩ := h; exact ⟨g3, e, hg, hO3.only hN2 (hO3.neTz hO (by decide))⟩) | (obtain ⟨q, cp, e, hr⟩ := h; exact ⟨q, cp, e, hr.nly hN2 hO⟩) | exact ⟨g, rfl, hg, _, rfl, hO2⟩ | exact waits_no hn (by kernel_rfl)
      · rintro a w0 ⟨x95, x96, x97, x98, x99, x94, x100, x101, x15, x16, rfl, hB⟩ hd K hK
        have d0 : x101 = _ := hd 7 (by kernel_rfl)
        subst d0
        go_wp2
        refine hK _ _ ⟨_, _, _, _, _, _, _, _, _, _, rfl, hB⟩ (rfl) ?_
        rintro (_|_|_|_|_|_|_|_|_|_|_|_) hj hn h <;> first | exact h | exact absurd rfl hj | exact waits_no hn (by kernel_rfl)
    · rintro a w1 ⟨x95, x96, x97, x98, x99, x94, x100, x101, x15, x16, rfl, hB⟩ hF
      have e16 : x16 = _ := hF 10 (by decide)
      obtain ⟨gH, qJ, capJ, e15, hgH, o_H, r_J⟩ := hF 9 (by decide)
      have e15 : x15 = _ := e15
      subst e16 e15
      clear hF
      replace o_M := o_M.below hB ltM
      replace o_G := o_G.below hB ltG
      replace r_S := r_S.below hB (Nat.le_refl _)
      replace m_I := m_I.below hB (Nat.le_refl _)
      replace b := b.trans (hB.mono b.size)
      clear hB o_X o_Y
      obtain ⟨wJ, rfl⟩ : ∃ x, x = w1 := ⟨_, rfl⟩
      go_wp2_with (first
          | (go_at_call 20; ((with_reducible refine (hhd.out qI capI w61 m_I).mono ?_); rintro e w62 ⟨rfl, hB⟩; replace o_M := o_M.below hB o_M.lt; replace o_G := o_G.below hB o_G.lt; replace o_H := o_H.below hB o_H.lt; replace r_S := r_S.below hB (Nat.le_refl _); replace r_J := r_J.below hB (Nat.le_refl _); replace m_I := m_I.below hB (Nat.le_refl _); replace b := b.trans (hB.mono b.size); clear hB))
          | (refine wpList_load_row rfl 28 _ rfl _ rfl 28 _ (0, 0) _ (o_G) Try.underlying28 rfl (by kernel_rfl) ?_)
          | (go_at_call 18; ((with_reducible refine (heq.out qJ qS capJ capS wJ (hrd.out _ _ _ r_J) (hrd.out _ _ _ r_S)).mono ?_); rintro e w61 ⟨rfl, hB⟩; replace o_M := o_M.below hB o_M.lt; replace o_G := o_G.below hB o_G.lt; replace o_H := o_H.below hB o_H.lt; replace r_S := r_S.below hB (Nat.le_refl _); replace r_J := r_J.below hB (Nat.le_refl _); replace m_I := m_I.below hB (Nat.le_refl _); replace b := b.trans (hB.mono b.size); clear hB))
          | (refine wpList_load_row rfl 28 _ rfl _ rfl 28 _ (0, 0) _ (o_M) Try.underlying28 rfl (by kernel_rfl) ?_)
          | (refine wpList_load_row rfl 28 _ rfl _ rfl 28 _ (0, 0) _ (o_H) Try.underlying28 rfl (by kernel_rfl) ?_))
      go_ret
      exact ⟨rfl, b⟩
theorem com_big (p c n p2 c2 n2 : Int) (q1 q2 : Option Addr) (len len2 cap1 cap2 : Nat) (w : World) (hm : len ≤ maxLen) (h : 1048576 < len) : Calls Try.prog 8 #[.agg (ecl p c n (.slice q1 len cap1)), .agg (ecl p2 c2 n2 (.slice q2 len2 cap2))] w fun e w' => e = .returned (.bool true) ∧ Below w.heap.size w w' := by
  have hsz := Lib.hid (fun w => szE_any p c n q1 len cap1 1048576 w hm (by omega) (by omega))
  rw [if_pos (by omega)] at hsz
  clear h hm
  go_enter Try.func8, Try.ntmps8
  unfold ecl at *
  go_wp2_with (first
      | (go_at_call 14; ((with_reducible refine (hsz.out _).mono ?_); rintro e w1 ⟨rfl, hB1⟩; have b1 := (((Below.refl w.heap.size w).alloc (Nat.le_refl _) _).alloc (by simp) _).trans (hB1.mono (by simp; omega))))
      | (refine wpList_load_row rfl 24 _ rfl _ rfl 24 _ (0, 0) _ ((Own.new w _ _).alloc _) Try.underlying24 rfl (by kernel_rfl) ?_))
  go_ret
  exact ⟨rfl, b1⟩
theorem com_big2 (p c n p2 c2 n2 : Int) (q1 q2 : Option Addr) (len len2 cap1 cap2 : Nat) (w : World) (hm : len ≤ 1048576) (hm2 : len2 ≤ maxLen) (h : 1048576 < len + len2) : Calls Try.prog 8 #[.agg (ecl p c n (.slice q1 len cap1)), .agg (ecl p2 c2 n2 (.slice q2 len2 cap2))] w fun e w' => e = .returned (.bool true) ∧ Below w.heap.size w w' := by
  have hsz := Lib.hid (fun w => szE_any p c n q1 len cap1 1048576 w (by unfold maxLen; omega) (by omega) (by omega))
  rw [if_neg (by omega)] at hsz
  have hszY := Lib.hid (fun w => szE_any p2 c2 n2 q2 len2 cap2 (1048576 - (len : Int)) w hm2 (by omega) (by omega))
  rw [if_pos (by omega)] at hszY
  have hlz : ¬ (1048576 - (len : Int) < 0) := by omega
  obtain ⟨z1, hz1⟩ : ∃ z : Int, 1048576 - (len : Int) = z := ⟨_, rfl⟩
  rw [hz1] at hsz hszY hlz
  clear h hm hz1 hm2
  go_enter Try.func8, Try.ntmps8
  unfold ecl at *
  go_wp2_with (first
      | (go_at_call 14; ((with_reducible refine (hszY.out w1).mono ?_); rintro e w2 ⟨rfl, hB2⟩; replace b := b.trans (hB2.mono b.size)))
      | (refine wpList_load_row rfl 24 _ rfl _ rfl 24 _ (0, 0) _ o_Y Try.underlying24 rfl (by kernel_rfl) ?_)
      | (go_at_call 14; ((with_reducible refine (hsz.out ((w.alloc (.cells #[.int .i64 p, .int .i64 c, .int .i64 n, .slice q1 len cap1] 24)).alloc (.cells #[.int .i64 p2, .int .i64 c2, .int .i64 n2, .slice q2 len2 cap2] 24))).mono ?_); rintro e w1 ⟨rfl, hB⟩; have o_Y := (Own.at (w.alloc (.cells #[.int .i64 p, .int .i64 c, .int .i64 n, .slice q1 len cap1] 24)) #[.int .i64 p2, .int .i64 c2, .int .i64 n2, .slice q2 len2 cap2] 24 (by simp : _ = w.heap.size + 1)).below hB (by simp); have b : Below w.heap.size w w1 := (((Below.refl w.heap.size w).alloc (Nat.le_refl _) _).alloc (by simp) _).trans (hB.mono (by simp; omega)); clear hB))
      | (refine wpList_load_row rfl 24 _ rfl _ rfl 24 _ (0, 0) _ ((Own.new w _ _).alloc _) Try.underlying24 rfl (by kernel_rfl) ?_))
  go_ret
  exact ⟨rfl, b⟩
end Go.Proofs.Ytpmcngmphkegnaa
