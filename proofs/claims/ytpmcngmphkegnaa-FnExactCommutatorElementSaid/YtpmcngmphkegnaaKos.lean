/- CommutatorElement: the model. (Written by genkos.py.) -/
import Derived.Test.YtpmcngmphkegnaaKoa
import Derived.Test.YtpmcngmphkegnaaGfr
namespace Go.Proofs.Ytpmcngmphkegnaa
open Go.RowKit Go.Lib
set_option linter.unusedVariables false
set_option linter.unusedSimpArgs false
/-- Two pointers to blocks that are there, and not to one block. -/
def TwE (x y : Value) (w : World) : Prop :=
  (∀ p : Nat, x = .pointer (some ⟨p, 0, none⟩) → p < w.heap.size) ∧ (∀ p : Nat, y = .pointer (some ⟨p, 0, none⟩) → p < w.heap.size) ∧ ∀ p q : Nat, x = .pointer (some ⟨p, 0, none⟩) → y = .pointer (some ⟨q, 0, none⟩) → p ≠ q
theorem TwE.start (w : World) : TwE undef undef w := ⟨by intro p h; simp [undef] at h, by intro p h; simp [undef] at h, by intro p q h; simp [undef] at h⟩
theorem TwE.grow {x y : Value} {w w' : World} (h : TwE x y w) (hs : w.heap.size ≤ w'.heap.size) : TwE x y w' :=
  ⟨fun p e => Nat.lt_of_lt_of_le (h.1 p e) hs, fun p e => Nat.lt_of_lt_of_le (h.2.1 p e) hs, h.2.2⟩
theorem TwE.left {x y : Value} {w : World} (h : TwE x y w) (o : Obj) : TwE (.pointer (some ⟨w.heap.size, 0, none⟩)) y (w.alloc o) :=
  ⟨fun p e => by simp at e; subst e; simp, fun p e => Nat.lt_of_lt_of_le (h.2.1 p e) (by simp), fun p q e e' => by
    simp at e; subst e
    exact Ne.symm (Nat.ne_of_lt (h.2.1 q e'))⟩
theorem TwE.right {x y : Value} {w : World} (h : TwE x y w) (o : Obj) : TwE x (.pointer (some ⟨w.heap.size, 0, none⟩)) (w.alloc o) :=
  ⟨fun p e => Nat.lt_of_lt_of_le (h.1 p e) (by simp), fun p e => by simp at e; subst e; simp, fun p q e e' => by
    simp at e'; subst e'
    exact Nat.ne_of_lt (h.1 p e)⟩
theorem MnT.nl2 {w w' : World} {B b g : Nat} {L : List Tm} {cs : Array Value} (h : MnT w B g L) (hN : Only b w w') (hO : Own w b cs 28) : MnT w' B g L := by
  obtain ⟨h0, sp, ho⟩ := h
  exact ⟨h0, sp, ho.only hN (ho.neTz hO (by decide))⟩
set_option maxRecDepth 100000 in
set_option maxHeartbeats 16000000 in
theorem comS_lim (p c n : Int) (a cap a2 cap2 : Nat) (xs ys : List Tm) (hts : ∀ t ∈ xs, t.2.1.length = 16 ∧ Bytes t.2.1) (hx : xs.length ≤ 1048576) (hts2 : ∀ t ∈ ys, t.2.1.length = 16 ∧ Bytes t.2.1) (hy : ys.length ≤ 1048576) (hk : prC p c n xs p c n ys = 0) (hx1 : elB p c n xs = true) (hy1 : elB p c n ys = true) (hlim : 140 < (prN p c n xs ys).length ∨ 140 < (prN p c n ys xs).length) (w : World) (hR : RdT w (some ⟨a, 0, none⟩) xs) (hRy : RdT w (some ⟨a2, 0, none⟩) ys) :
    Calls Try.prog 29 #[.agg (ecl p c n (.slice (some ⟨a, 0, none⟩) xs.length cap)), .agg (ecl p c n (.slice (some ⟨a2, 0, none⟩) ys.length cap2))] w fun e w' => e = .returned (.tuple #[.agg (ecl 0 0 0 (.slice none 0 0)), .int .i64 3]) ∧ Below w.heap.size w w' := by
  obtain ⟨hp, hc, hn, hl, hG0, hsz, hp2, hp97, hto⟩ := elB_good hx1 hts
  obtain ⟨_, _, _, hl2, hG2, hsz2, _, _, hto2⟩ := elB_good hy1 hts2
  have hX : ∀ t ∈ xs, t.1 = n ∧ VD (kTm t) ∧ 0 ≤ t.2.2 ∧ t.2.2 ≤ 100 := fun t ht => ⟨hsz t ht, (hto t ht).1, (hto t ht).2.1, (hto t ht).2.2⟩
  have hY : ∀ t ∈ ys, t.1 = n ∧ VD (kTm t) ∧ 0 ≤ t.2.2 ∧ t.2.2 ≤ 100 := fun t ht => ⟨hsz2 t ht, (hto2 t ht).1, (hto2 t ht).2.1, (hto2 t ht).2.2⟩
  have hpr := Lib.hid (fun w h1 h2 => prS_any p c n p c n (some ⟨a, 0, none⟩) (some ⟨a2, 0, none⟩) cap cap2 xs ys hts hx hts2 hy (by omega) (by omega) w h1 h2)
  rw [hk] at hpr
  have hpo := Lib.hid (fun w h1 h2 => timS_any p c n p c n n a a2 cap cap2 xs ys hX hY hl hl2 hp2 hp97 hc.1 hc.2 w h1 h2)
  have hpq := Lib.hid (fun w h1 h2 => timS_any p c n p c n n a2 a cap2 cap ys xs hY hX hl2 hl hp2 hp97 hc.1 hc.2 w h1 h2)
  have hG : GoodT p (prN p c n xs ys) := prN_good (by omega) (fun t ht => ⟨(hX t ht).1, (hX t ht).2.1⟩) (fun t ht => ⟨(hY t ht).1, (hY t ht).2.1⟩)
  have hG' : GoodT p (prN p c n ys xs) := prN_good (by omega) (fun t ht => ⟨(hY t ht).1, (hY t ht).2.1⟩) (fun t ht => ⟨(hX t ht).1, (hX t ht).2.1⟩)
  obtain ⟨M1, hM1⟩ : ∃ R, prN p c n xs ys = R := ⟨_, rfl⟩
  obtain ⟨M2, hM2⟩ : ∃ R, prN p c n ys xs = R := ⟨_, rfl⟩
  rw [hM1] at hpo hG hlim
  rw [hM2] at hpq hG' hlim
  obtain ⟨l, hll⟩ : ∃ l, xs.length = l := ⟨_, rfl⟩
  obtain ⟨m, hmm⟩ : ∃ m, ys.length = m := ⟨_, rfl⟩
  obtain ⟨m1, hm1⟩ : ∃ z, M1.length = z := ⟨_, rfl⟩
  obtain ⟨m2, hm2⟩ : ∃ z, M2.length = z := ⟨_, rfl⟩
  rw [hm1] at hpo hlim
  rw [hm2] at hpq hlim
  rw [hll] at hpr hpo hpq ⊢
  rw [hmm] at hpr hpo hpq ⊢
  have hR1 := Lib.hid (fun w' (hb : Below w.heap.size w w') => hR.below hb)
  have hR2 := Lib.hid (fun w' (hb : Below w.heap.size w w') => hRy.below hb)
  have b00 := built00
  clear hts hx hts2 hy hk hx1 hy1 hR hRy hp hc hn hl hG0 hsz hto hl2 hG2 hto2 hM1 hM2 hll hmm hX hY hG hG' hm1 hm2
  unfold ecl at *
  go_enter Try.func29, Try.ntmps29
  go_upto_region 4 with (first
    | (go_at_call 45; (have wb := ((((Below.refl w.heap.size w).alloc (Nat.le_refl _) (.cells #[.int .i64 p, .int .i64 c, .int .i64 n, .slice (some ⟨a, 0, none⟩) l cap] 28)).alloc (by simp) (.cells #[.int .i64 p, .int .i64 c, .int .i64 n, .slice (some ⟨a2, 0, none⟩) m cap2] 28)).alloc (by simp; omega) (.cells #[.int .i64 0, .int .i64 0, .int .i64 0, .slice none 0 0] 28)); (with_reducible refine (hpr.out _ (hR1.out _ wb) (hR2.out _ wb)).mono ?_); rintro e w1 ⟨rfl, hB1⟩; have oX1 := (((Own.new w #[.int .i64 p, .int .i64 c, .int .i64 n, .slice (some ⟨a, 0, none⟩) l cap] 28).alloc (.cells #[.int .i64 p, .int .i64 c, .int .i64 n, .slice (some ⟨a2, 0, none⟩) m cap2] 28)).alloc (.cells #[.int .i64 0, .int .i64 0, .int .i64 0, .slice none 0 0] 28)).below hB1 (by simp; omega); have oY1 := ((Own.at (w.alloc (.cells #[.int .i64 p, .int .i64 c, .int .i64 n, .slice (some ⟨a, 0, none⟩) l cap] 28)) #[.int .i64 p, .int .i64 c, .int .i64 n, .slice (some ⟨a2, 0, none⟩) m cap2] 28 (by simp : _ = w.heap.size + 1)).alloc (.cells #[.int .i64 0, .int .i64 0, .int .i64 0, .slice none 0 0] 28)).below hB1 (by simp); have oR1 := (Own.at ((w.alloc (.cells #[.int .i64 p, .int .i64 c, .int .i64 n, .slice (some ⟨a, 0, none⟩) l cap] 28)).alloc (.cells #[.int .i64 p, .int .i64 c, .int .i64 n, .slice (some ⟨a2, 0, none⟩) m cap2] 28)) #[.int .i64 0, .int .i64 0, .int .i64 0, .slice none 0 0] 28 (by simp : _ = w.heap.size + 1 + 1)).below hB1 (by simp); have b1 : Below w.heap.size w w1 := wb.trans (hB1.mono (by simp; omega)); clear hB1 wb))
    | (refine wpList_load_row rfl 28 _ rfl _ rfl 28 _ (0, 0) _ (((Own.new w #[.int .i64 p, .int .i64 c, .int .i64 n, .slice (some ⟨a, 0, none⟩) l cap] 28).alloc (.cells #[.int .i64 p, .int .i64 c, .int .i64 n, .slice (some ⟨a2, 0, none⟩) m cap2] 28)).alloc (.cells #[.int .i64 0, .int .i64 0, .int .i64 0, .slice none 0 0] 28)) Try.underlying28 rfl (by kernel_rfl) ?_)
    | (refine wpList_load_row rfl 28 _ rfl _ rfl 28 _ (0, 0) _ ((Own.at (w.alloc (.cells #[.int .i64 p, .int .i64 c, .int .i64 n, .slice (some ⟨a, 0, none⟩) l cap] 28)) #[.int .i64 p, .int .i64 c, .int .i64 n, .slice (some ⟨a2, 0, none⟩) m cap2] 28 (by simp : _ = w.heap.size + 1)).alloc (.cells #[.int .i64 0, .int .i64 0, .int .i64 0, .slice none 0 0] 28)) Try.underlying28 rfl (by kernel_rfl) ?_))
  obtain ⟨wd, rfl⟩ : ∃ x, x = w1 := ⟨_, rfl⟩
  have oX := oX1
  have oY := oY1
  have oR := oR1
  have bW := b1
  have ltX := oX.lt
  have ltY := oY.lt
  clear oX1 oY1 oR1 b1
  refine gen_fr (fun jx => ⟨List.toArray [.agg #[.int .i64 p, .int .i64 c, .int .i64 n, .slice (some ⟨a, 0, none⟩) l cap], .agg #[.int .i64 p, .int .i64 c, .int .i64 n, .slice (some ⟨a2, 0, none⟩) m cap2], .pointer (some ⟨w.heap.size, 0, none⟩), .pointer (some ⟨w.heap.size + 1, 0, none⟩), .pointer (some ⟨w.heap.size + 1 + 1, 0, none⟩), jx 5, jx 6, undef, undef, jx 9, jx 10, jx 11, jx 12, jx 13, jx 14, jx 15, jx 16, jx 17, jx 18, jx 19, jx 20, jx 21, jx 22, jx 23, jx 24, jx 25, jx 26, jx 27, jx 28, jx 29, jx 30, jx 31, jx 32, jx 33, jx 34, jx 35, jx 36, jx 37, jx 38, jx 39, jx 40, jx 41, jx 42, jx 43], []⟩) ?_ (by rfl)
  intro jx
  refine wp_region_facts (by kernel_rfl) (by kernel_rfl) (fun aF w' => ∃ x18 x19 x20 x21 x22 x23 x7 x8 : Value, aF = ⟨List.toArray [.agg #[.int .i64 p, .int .i64 c, .int .i64 n, .slice (some ⟨a, 0, none⟩) l cap], .agg #[.int .i64 p, .int .i64 c, .int .i64 n, .slice (some ⟨a2, 0, none⟩) m cap2], .pointer (some ⟨w.heap.size, 0, none⟩), .pointer (some ⟨w.heap.size + 1, 0, none⟩), .pointer (some ⟨w.heap.size + 1 + 1, 0, none⟩), jx 5, jx 6, x7, x8, jx 9, jx 10, jx 11, jx 12, jx 13, jx 14, jx 15, jx 16, jx 17, x18, x19, x20, x21, x22, x23, jx 24, jx 25, jx 26, jx 27, jx 28, jx 29, jx 30, jx 31, jx 32, jx 33, jx 34, jx 35, jx 36, jx 37, jx 38, jx 39, jx 40, jx 41, jx 42, jx 43], []⟩ ∧ Below wd.heap.size wd w' ∧ TwE x7 x8 w') (fun jF aF w' => match jF with | 0 => sl aF 18 = .agg #[.int .i64 p, .int .i64 c, .int .i64 n, .slice (some ⟨a, 0, none⟩) l cap] | 1 => sl aF 19 = .agg #[.int .i64 p, .int .i64 c, .int .i64 n, .slice (some ⟨a2, 0, none⟩) m cap2] | 2 => ∃ g cp : Nat, sl aF 20 = .agg #[.int .i64 p, .int .i64 c, .int .i64 n, .slice (some ⟨g, 0, none⟩) m1 cp] ∧ wd.heap.size ≤ g ∧ MnT w' wd.heap.size g M1 | 3 => sl aF 21 = .agg #[.int .i64 p, .int .i64 c, .int .i64 n, .slice (some ⟨a2, 0, none⟩) m cap2] | 4 => sl aF 22 = .agg #[.int .i64 p, .int .i64 c, .int .i64 n, .slice (some ⟨a, 0, none⟩) l cap] | 5 => ∃ g cp : Nat, sl aF 23 = .agg #[.int .i64 p, .int .i64 c, .int .i64 n, .slice (some ⟨g, 0, none⟩) m2 cp] ∧ wd.heap.size ≤ g ∧ MnT w' wd.heap.size g M2 | 6 => ∃ g : Nat, sl aF 7 = .pointer (some ⟨g, 0, none⟩) ∧ wd.heap.size ≤ g ∧ ∃ cs : Array Value, cs.size = 4 ∧ Own w' g cs 28 | 7 => ∃ g : Nat, sl aF 8 = .pointer (some ⟨g, 0, none⟩) ∧ wd.heap.size ≤ g ∧ ∃ cs : Array Value, cs.size = 4 ∧ Own w' g cs 28 | 8 => ∃ g g1 cp : Nat, sl aF 7 = .pointer (some ⟨g, 0, none⟩) ∧ wd.heap.size ≤ g ∧ Own w' g #[.int .i64 p, .int .i64 c, .int .i64 n, .slice (some ⟨g1, 0, none⟩) m1 cp] 28 ∧ MnT w' wd.heap.size g1 M1 | 9 => ∃ g g1 cp : Nat, sl aF 8 = .pointer (some ⟨g, 0, none⟩) ∧ wd.heap.size ≤ g ∧ Own w' g #[.int .i64 p, .int .i64 c, .int .i64 n, .slice (some ⟨g1, 0, none⟩) m2 cp] 28 ∧ MnT w' wd.heap.size g1 M2 | _ => True) ⟨_, _, _, _, _, _, undef, undef, rfl, (Below.refl _ _).drew, TwE.start _⟩ ?_ ?_
  · refine (AllOps.cons ?_ (AllOps.cons ?_ (AllOps.cons ?_ (AllOps.cons ?_ (AllOps.cons ?_ (AllOps.cons ?_ (AllOps.cons ?_ (AllOps.cons ?_ (AllOps.cons ?_ (AllOps.cons ?_ AllOps.nil))))))))))
    · rintro aF w0 ⟨x18, x19, x20, x21, x22, x23, x7, x8, rfl, hB, hI⟩ hd K hK
      go_wp2_with (first | (refine wpList_load_row rfl 28 _ rfl _ rfl 28 _ (0, 0) _ (oX.below hB ltX) Try.underlying28 rfl (by kernel_rfl) ?_))
      refine hK _ _ ⟨_, _, _, _, _, _, _, _, rfl, hB, hI⟩ (rfl) ?_
      rintro (_|_|_|_|_|_|_|_|_|_|_) hj hn h <;> first | exact h | exact absurd rfl hj | exact waits_no hn (by kernel_rfl)
    · rintro aF w0 ⟨x18, x19, x20, x21, x22, x23, x7, x8, rfl, hB, hI⟩ hd K hK
      go_wp2_with (first | (refine wpList_load_row rfl 28 _ rfl _ rfl 28 _ (0, 0) _ (oY.below hB ltY) Try.underlying28 rfl (by kernel_rfl) ?_))
      refine hK _ _ ⟨_, _, _, _, _, _, _, _, rfl, hB, hI⟩ (rfl) ?_
      rintro (_|_|_|_|_|_|_|_|_|_|_) hj hn h <;> first | exact h | exact absurd rfl hj | exact waits_no hn (by kernel_rfl)
    · rintro aF w0 ⟨x18, x19, x20, x21, x22, x23, x7, x8, rfl, hB, hI⟩ hd K hK
      have d0 : x18 = _ := hd 0 (by kernel_rfl)
      have d1 : x19 = _ := hd 1 (by kernel_rfl)
      subst d0 d1
      go_wp2_with (first | (go_at_call 60; ((with_reducible refine (hpo.out w0 (hR1.out _ (bW.trans (hB.mono bW.size))) (hR2.out _ (bW.trans (hB.mono bW.size)))).mono ?_); rintro e w2 ⟨⟨gx, cx, rfl, hcx, hMx⟩, hB2⟩)))
      refine hK _ _ ⟨_, _, _, _, _, _, _, _, rfl, hB.trans (hB2.mono hB.size), hI.grow hB2.size⟩ (⟨gx, cx, rfl, Nat.le_trans hB.size hMx.1, hMx.weak hB.size⟩) ?_
      rintro (_|_|_|_|_|_|_|_|_|_|_) hj hn h <;> first | exact h | exact absurd rfl hj | (obtain ⟨g, cp, e, hg, hO⟩ := h; exact ⟨g, cp, e, hg, hO.below hB2 hO.lt⟩) | (obtain ⟨g, e, hg, cs, hcs, hO⟩ := h; exact ⟨g, e, hg, cs, hcs, hO.below hB2 hO.lt⟩) | exact waits_no hn (by kernel_rfl)
    · rintro aF w0 ⟨x18, x19, x20, x21, x22, x23, x7, x8, rfl, hB, hI⟩ hd K hK
      go_wp2_with (first | (refine wpList_load_row rfl 28 _ rfl _ rfl 28 _ (0, 0) _ (oY.below hB ltY) Try.underlying28 rfl (by kernel_rfl) ?_))
      refine hK _ _ ⟨_, _, _, _, _, _, _, _, rfl, hB, hI⟩ (rfl) ?_
      rintro (_|_|_|_|_|_|_|_|_|_|_) hj hn h <;> first | exact h | exact absurd rfl hj | exact waits_no hn (by kernel_rfl)
    · rintro aF w0 ⟨x18, x19, x20, x21, x22, x23, x7, x8, rfl, hB, hI⟩ hd K hK
      go_wp2_with (first | (refine wpList_load_row rfl 28 _ rfl _ rfl 28 _ (0, 0) _ (oX.below hB ltX) Try.underlying28 rfl (by kernel_rfl) ?_))
      refine hK _ _ ⟨_, _, _, _, _, _, _, _, rfl, hB, hI⟩ (rfl) ?_
      rintro (_|_|_|_|_|_|_|_|_|_|_) hj hn h <;> first | exact h | exact absurd rfl hj | exact waits_no hn (by kernel_rfl)
    · rintro aF w0 ⟨x18, x19, x20, x21, x22, x23, x7, x8, rfl, hB, hI⟩ hd K hK
      have d0 : x21 = _ := hd 3 (by kernel_rfl)
      have d1 : x22 = _ := hd 4 (by kernel_rfl)
      subst d0 d1
      go_wp2_with (first | (go_at_call 60; ((with_reducible refine (hpq.out w0 (hR2.out _ (bW.trans (hB.mono bW.size))) (hR1.out _ (bW.trans (hB.mono bW.size)))).mono ?_); rintro e w2 ⟨⟨gx, cx, rfl, hcx, hMx⟩, hB2⟩)))
      refine hK _ _ ⟨_, _, _, _, _, _, _, _, rfl, hB.trans (hB2.mono hB.size), hI.grow hB2.size⟩ (⟨gx, cx, rfl, Nat.le_trans hB.size hMx.1, hMx.weak hB.size⟩) ?_
      rintro (_|_|_|_|_|_|_|_|_|_|_) hj hn h <;> first | exact h | exact absurd rfl hj | (obtain ⟨g, cp, e, hg, hO⟩ := h; exact ⟨g, cp, e, hg, hO.below hB2 hO.lt⟩) | (obtain ⟨g, e, hg, cs, hcs, hO⟩ := h; exact ⟨g, e, hg, cs, hcs, hO.below hB2 hO.lt⟩) | exact waits_no hn (by kernel_rfl)
    · rintro aF w0 ⟨x18, x19, x20, x21, x22, x23, x7, x8, rfl, hB, hI⟩ hd K hK
      go_wp2
      refine hK _ _ ⟨_, _, _, _, _, _, _, _, rfl, hB.alloc hB.size _, hI.left _⟩ (⟨_, rfl, hB.size, _, rfl, Own.new _ _ _⟩) ?_
      rintro (_|_|_|_|_|_|_|_|_|_|_) hj hn h <;> first | exact h | exact absurd rfl hj | (obtain ⟨g, cp, e, hg, hO⟩ := h; exact ⟨g, cp, e, hg, hO.alloc _⟩) | (obtain ⟨g, e, hg, cs, hcs, hO⟩ := h; exact ⟨g, e, hg, cs, hcs, hO.alloc _⟩) | exact waits_no hn (by kernel_rfl)
    · rintro aF w0 ⟨x18, x19, x20, x21, x22, x23, x7, x8, rfl, hB, hI⟩ hd K hK
      go_wp2
      refine hK _ _ ⟨_, _, _, _, _, _, _, _, rfl, hB.alloc hB.size _, hI.right _⟩ (⟨_, rfl, hB.size, _, rfl, Own.new _ _ _⟩) ?_
      rintro (_|_|_|_|_|_|_|_|_|_|_) hj hn h <;> first | exact h | exact absurd rfl hj | (obtain ⟨g, cp, e, hg, hO⟩ := h; exact ⟨g, cp, e, hg, hO.alloc _⟩) | (obtain ⟨g, e, hg, cs, hcs, hO⟩ := h; exact ⟨g, e, hg, cs, hcs, hO.alloc _⟩) | exact waits_no hn (by kernel_rfl)
    · rintro aF w0 ⟨x18, x19, x20, x21, x22, x23, x7, x8, rfl, hB, hI⟩ hd K hK
      obtain ⟨g, e, hg, cs, hcs, hO⟩ := hd 6 (by kernel_rfl)
      have e : x7 = _ := e
      obtain ⟨g1, cp1, ex, hg1, hM⟩ := hd 2 (by kernel_rfl)
      have ex : x20 = _ := ex
      subst e ex
      go_wp2_with (first | (refine wpList_store_own rfl 28 _ _ rfl _ _ rfl rfl 28 _ hO (by kernel_rfl) (by rw [hcs]; rfl) (by simp [Value.oneCell']) ?_; intro w2 hO2 hN2))
      refine hK _ _ ⟨_, _, _, _, _, _, _, _, rfl, hB.trans (hN2.below.mono hg), hI.grow (by rw [hN2.size]; exact Nat.le_refl _)⟩ (⟨g, g1, cp1, rfl, hg, hO2, hM.nl2 hN2 hO⟩) ?_
      rintro (_|_|_|_|_|_|_|_|_|_|_) hj hn h <;> first | exact h | exact absurd rfl hj | exact ⟨g, rfl, hg, _, rfl, hO2⟩ | (obtain ⟨g3, e3, hg3, cs3, hcs3, hO3⟩ := h; exact ⟨g3, e3, hg3, cs3, hcs3, hO3.only hN2 (fun e => hI.2.2 _ _ rfl e3 e.symm)⟩) | (obtain ⟨g3, cp3, e, hg3, hO3⟩ := h; exact ⟨g3, cp3, e, hg3, hO3.nl2 hN2 hO⟩) | exact waits_no hn (by kernel_rfl)
    · rintro aF w0 ⟨x18, x19, x20, x21, x22, x23, x7, x8, rfl, hB, hI⟩ hd K hK
      obtain ⟨g, e, hg, cs, hcs, hO⟩ := hd 7 (by kernel_rfl)
      have e : x8 = _ := e
      obtain ⟨g1, cp1, ex, hg1, hM⟩ := hd 5 (by kernel_rfl)
      have ex : x23 = _ := ex
      subst e ex
      go_wp2_with (first | (refine wpList_store_own rfl 28 _ _ rfl _ _ rfl rfl 28 _ hO (by kernel_rfl) (by rw [hcs]; rfl) (by simp [Value.oneCell']) ?_; intro w2 hO2 hN2))
      refine hK _ _ ⟨_, _, _, _, _, _, _, _, rfl, hB.trans (hN2.below.mono hg), hI.grow (by rw [hN2.size]; exact Nat.le_refl _)⟩ (⟨g, g1, cp1, rfl, hg, hO2, hM.nl2 hN2 hO⟩) ?_
      rintro (_|_|_|_|_|_|_|_|_|_|_) hj hn h <;> first | exact h | exact absurd rfl hj | exact ⟨g, rfl, hg, _, rfl, hO2⟩ | (obtain ⟨g3, e3, hg3, cs3, hcs3, hO3⟩ := h; exact ⟨g3, e3, hg3, cs3, hcs3, hO3.only hN2 (hI.2.2 _ _ e3 rfl)⟩) | (obtain ⟨g3, g4, cp4, e3, hg3, hO3, hM3⟩ := h; exact ⟨g3, g4, cp4, e3, hg3, hO3.only hN2 (hI.2.2 _ _ e3 rfl), hM3.nl2 hN2 hO⟩) | (obtain ⟨g3, cp3, e, hg3, hO3⟩ := h; exact ⟨g3, cp3, e, hg3, hO3.nl2 hN2 hO⟩) | exact waits_no hn (by kernel_rfl)
  · rintro aF w1 ⟨x18, x19, x20, x21, x22, x23, x7, x8, rfl, hB, hI⟩ hF
    obtain ⟨b7, g1, q1, e7, hg7, oA, hA⟩ := hF 8 (by decide)
    obtain ⟨b8, g2, q2, e8, hg8, oB, hBm⟩ := hF 9 (by decide)
    have e7 : x7 = _ := e7
    have e8 : x8 = _ := e8
    subst e7 e8
    have h78 : b7 ≠ b8 := hI.2.2 _ _ rfl rfl
    have oX1 := oX.below hB ltX
    have oR1 := oR.below hB oR.lt
    have b1 := bW.trans (hB.mono bW.size)
    have hA' : MnT w1 w.heap.size g1 M1 := hA.weak bW.size
    have hB' : MnT w1 w.heap.size g2 M2 := hBm.weak bW.size
    have c7 : w1.cell? ⟨b7, 3, none⟩ = some (.slice (some ⟨g1, 0, none⟩) m1 q1) := oA.cell 3
    have c8 : w1.cell? ⟨b8, 3, none⟩ = some (.slice (some ⟨g2, 0, none⟩) m2 q2) := oB.cell 3
    clear hF hI hB hA hBm oX oY bW
    obtain ⟨wA, rfl⟩ : ∃ x, x = w1 := ⟨_, rfl⟩
    by_cases h1 : 140 < m1
    · have h1i : (140 : Int) < (m1 : Int) := by omega
      go_wp2_with (first
        | (refine wpList_store_own rfl 28 _ _ rfl _ _ rfl rfl 28 _ oR1 (by kernel_rfl) rfl (by simp [Value.oneCell']) ?_; intro w6 oR6 hN6))
      refine bodyPost_ret (v := .tuple #[.agg #[.int .i64 0, .int .i64 0, .int .i64 0, .slice none 0 0], .int .i64 3]) (results_row_tmp rfl _ _ _ _ _ (0, 0) _ rfl oR6 Try.underlying28 rfl (by kernel_rfl) _ rfl) rfl ⟨rfl, b1.trans (hN6.below.mono (by omega))⟩
    · have h1i : ¬ (140 : Int) < (m1 : Int) := by omega
      have h2i : (140 : Int) < (m2 : Int) := by omega
      go_wp2_with (first
        | (refine wpList_store_own rfl 28 _ _ rfl _ _ rfl rfl 28 _ oR1 (by kernel_rfl) rfl (by simp [Value.oneCell']) ?_; intro w6 oR6 hN6))
      refine bodyPost_ret (v := .tuple #[.agg #[.int .i64 0, .int .i64 0, .int .i64 0, .slice none 0 0], .int .i64 3]) (results_row_tmp rfl _ _ _ _ _ (0, 0) _ rfl oR6 Try.underlying28 rfl (by kernel_rfl) _ rfl) rfl ⟨rfl, b1.trans (hN6.below.mono (by omega))⟩
set_option maxRecDepth 100000 in
set_option maxHeartbeats 16000000 in
theorem comS_ok (p c n : Int) (a cap a2 cap2 : Nat) (xs ys : List Tm) (hts : ∀ t ∈ xs, t.2.1.length = 16 ∧ Bytes t.2.1) (hx : xs.length ≤ 1048576) (hts2 : ∀ t ∈ ys, t.2.1.length = 16 ∧ Bytes t.2.1) (hy : ys.length ≤ 1048576) (hk : prC p c n xs p c n ys = 0) (hx1 : elB p c n xs = true) (hy1 : elB p c n ys = true) (hle1 : (prN p c n xs ys).length ≤ 140) (hle2 : (prN p c n ys xs).length ≤ 140) (p1 c1 n1' cd : Int) (L1 : List Tm) (hdj : ((smN p (-1) (prN p c n ys xs) (prN p c n xs ys)).length ≤ 140 ∧ p1 = p ∧ c1 = c ∧ n1' = n ∧ cd = 0 ∧ L1 = smN p (-1) (prN p c n ys xs) (prN p c n xs ys)) ∨ (140 < (smN p (-1) (prN p c n ys xs) (prN p c n xs ys)).length ∧ p1 = 0 ∧ c1 = 0 ∧ n1' = 0 ∧ cd = 3 ∧ L1 = [])) (w : World) (hR : RdT w (some ⟨a, 0, none⟩) xs) (hRy : RdT w (some ⟨a2, 0, none⟩) ys) :
    Calls Try.prog 29 #[.agg (ecl p c n (.slice (some ⟨a, 0, none⟩) xs.length cap)), .agg (ecl p c n (.slice (some ⟨a2, 0, none⟩) ys.length cap2))] w fun e w' => (∃ q cap, e = .returned (.tuple #[.agg (ecl p1 c1 n1' (.slice q L1.length cap)), .int .i64 cd]) ∧ Res w' w.heap.size q L1) ∧ Below w.heap.size w w' := by
  obtain ⟨hp, hc, hn, hl, hG0, hsz, hp2, hp97, hto⟩ := elB_good hx1 hts
  obtain ⟨_, _, _, hl2, hG2, hsz2, _, _, hto2⟩ := elB_good hy1 hts2
  have hX : ∀ t ∈ xs, t.1 = n ∧ VD (kTm t) ∧ 0 ≤ t.2.2 ∧ t.2.2 ≤ 100 := fun t ht => ⟨hsz t ht, (hto t ht).1, (hto t ht).2.1, (hto t ht).2.2⟩
  have hY : ∀ t ∈ ys, t.1 = n ∧ VD (kTm t) ∧ 0 ≤ t.2.2 ∧ t.2.2 ≤ 100 := fun t ht => ⟨hsz2 t ht, (hto2 t ht).1, (hto2 t ht).2.1, (hto2 t ht).2.2⟩
  have hpr := Lib.hid (fun w h1 h2 => prS_any p c n p c n (some ⟨a, 0, none⟩) (some ⟨a2, 0, none⟩) cap cap2 xs ys hts hx hts2 hy (by omega) (by omega) w h1 h2)
  rw [hk] at hpr
  have hpo := Lib.hid (fun w h1 h2 => timS_any p c n p c n n a a2 cap cap2 xs ys hX hY hl hl2 hp2 hp97 hc.1 hc.2 w h1 h2)
  have hpq := Lib.hid (fun w h1 h2 => timS_any p c n p c n n a2 a cap2 cap ys xs hY hX hl2 hl hp2 hp97 hc.1 hc.2 w h1 h2)
  have hG : GoodT p (prN p c n xs ys) := prN_good (by omega) (fun t ht => ⟨(hX t ht).1, (hX t ht).2.1⟩) (fun t ht => ⟨(hY t ht).1, (hY t ht).2.1⟩)
  have hG' : GoodT p (prN p c n ys xs) := prN_good (by omega) (fun t ht => ⟨(hY t ht).1, (hY t ht).2.1⟩) (fun t ht => ⟨(hX t ht).1, (hX t ht).2.1⟩)
  obtain ⟨M1, hM1⟩ : ∃ R, prN p c n xs ys = R := ⟨_, rfl⟩
  obtain ⟨M2, hM2⟩ : ∃ R, prN p c n ys xs = R := ⟨_, rfl⟩
  rw [hM1] at hpo hG hle1 hdj
  rw [hM2] at hpq hG' hle2 hdj
  have hto3 : ∀ t ∈ M2, VD (kTm t) ∧ 0 ≤ t.2.2 ∧ t.2.2 ≤ 100 := fun t ht => ⟨hG'.val t ht, by have h : 1 ≤ t.2.2 ∧ t.2.2 < p := hG'.rng t ht; omega⟩
  have hsu := Lib.hid (fun (g1 q1 g2 q2 : Nat) w h1 h2 => sumS_any p c n (-1) p c n g1 g2 q1 q2 M1 M2 w h1 h2 hG hto3 hp2 hp97 (by omega) (by omega) (by omega) (by omega))
  have hrA := Lib.hid (fun W B g (h : MnT W B g M1) => h.rd (good16 hG))
  have hrB := Lib.hid (fun W B g (h : MnT W B g M2) => h.rd (good16 hG'))
  obtain ⟨R, hRR⟩ : ∃ R, smN p (-1) M2 M1 = R := ⟨_, rfl⟩
  rw [hRR] at hsu hdj
  obtain ⟨r, hrr⟩ : ∃ r, R.length = r := ⟨_, rfl⟩
  rw [hrr] at hsu hdj
  obtain ⟨l1, hl1⟩ : ∃ r, L1.length = r := ⟨_, rfl⟩
  have htd := Lib.hid (fun (g cp : Nat) (w : World) => show Calls Try.prog 46 #[.agg (ecl p c n (.slice (some ⟨g, 0, none⟩) r cp))] w fun e w' => ∃ q' cp', e = .returned (.tuple #[.agg (ecl p1 c1 n1' (.slice q' l1 cp')), .int .i64 cd]) ∧ ((q' = some ⟨g, 0, none⟩ ∧ L1 = R) ∨ (q' = none ∧ L1 = [])) ∧ Below w.heap.size w w' from by
    rcases hdj with ⟨h, e1, e2, e3, e4, e5⟩ | ⟨h, e1, e2, e3, e4, e5⟩
    · rw [e5, hrr] at hl1
      subst e1 e2 e3 e4 hl1
      exact (toldS_ok _ _ _ (some ⟨g, 0, none⟩) _ cp h w).mono fun e w' h => ⟨_, _, h.1, .inl ⟨rfl, e5⟩, h.2⟩
    · rw [e5] at hl1
      simp at hl1
      subst e1 e2 e3 e4 hl1
      exact (toldS_big p c n (some ⟨g, 0, none⟩) r cp h w).mono fun e w' h => ⟨_, _, h.1, .inr ⟨rfl, e5⟩, h.2⟩)
  rw [hl1]
  obtain ⟨l, hll⟩ : ∃ l, xs.length = l := ⟨_, rfl⟩
  obtain ⟨m, hmm⟩ : ∃ m, ys.length = m := ⟨_, rfl⟩
  obtain ⟨m1, hm1⟩ : ∃ z, M1.length = z := ⟨_, rfl⟩
  obtain ⟨m2, hm2⟩ : ∃ z, M2.length = z := ⟨_, rfl⟩
  rw [hm1] at hpo hle1 hsu
  rw [hm2] at hpq hle2 hsu
  rw [hll] at hpr hpo hpq ⊢
  rw [hmm] at hpr hpo hpq ⊢
  have hR1 := Lib.hid (fun w' (hb : Below w.heap.size w w') => hR.below hb)
  have hR2 := Lib.hid (fun w' (hb : Below w.heap.size w w') => hRy.below hb)
  have b00 := built00
  clear hts hx hts2 hy hk hx1 hy1 hR hRy hp hc hn hl hG0 hsz hto hl2 hG2 hto2 hM1 hM2 hll hmm hX hY hG hG' hm1 hm2 hdj hRR hrr hl1 hto3
  unfold ecl at *
  go_enter Try.func29, Try.ntmps29
  go_upto_region 4 with (first
    | (go_at_call 45; (have wb := ((((Below.refl w.heap.size w).alloc (Nat.le_refl _) (.cells #[.int .i64 p, .int .i64 c, .int .i64 n, .slice (some ⟨a, 0, none⟩) l cap] 28)).alloc (by simp) (.cells #[.int .i64 p, .int .i64 c, .int .i64 n, .slice (some ⟨a2, 0, none⟩) m cap2] 28)).alloc (by simp; omega) (.cells #[.int .i64 0, .int .i64 0, .int .i64 0, .slice none 0 0] 28)); (with_reducible refine (hpr.out _ (hR1.out _ wb) (hR2.out _ wb)).mono ?_); rintro e w1 ⟨rfl, hB1⟩; have oX1 := (((Own.new w #[.int .i64 p, .int .i64 c, .int .i64 n, .slice (some ⟨a, 0, none⟩) l cap] 28).alloc (.cells #[.int .i64 p, .int .i64 c, .int .i64 n, .slice (some ⟨a2, 0, none⟩) m cap2] 28)).alloc (.cells #[.int .i64 0, .int .i64 0, .int .i64 0, .slice none 0 0] 28)).below hB1 (by simp; omega); have oY1 := ((Own.at (w.alloc (.cells #[.int .i64 p, .int .i64 c, .int .i64 n, .slice (some ⟨a, 0, none⟩) l cap] 28)) #[.int .i64 p, .int .i64 c, .int .i64 n, .slice (some ⟨a2, 0, none⟩) m cap2] 28 (by simp : _ = w.heap.size + 1)).alloc (.cells #[.int .i64 0, .int .i64 0, .int .i64 0, .slice none 0 0] 28)).below hB1 (by simp); have oR1 := (Own.at ((w.alloc (.cells #[.int .i64 p, .int .i64 c, .int .i64 n, .slice (some ⟨a, 0, none⟩) l cap] 28)).alloc (.cells #[.int .i64 p, .int .i64 c, .int .i64 n, .slice (some ⟨a2, 0, none⟩) m cap2] 28)) #[.int .i64 0, .int .i64 0, .int .i64 0, .slice none 0 0] 28 (by simp : _ = w.heap.size + 1 + 1)).below hB1 (by simp); have b1 : Below w.heap.size w w1 := wb.trans (hB1.mono (by simp; omega)); clear hB1 wb))
    | (refine wpList_load_row rfl 28 _ rfl _ rfl 28 _ (0, 0) _ (((Own.new w #[.int .i64 p, .int .i64 c, .int .i64 n, .slice (some ⟨a, 0, none⟩) l cap] 28).alloc (.cells #[.int .i64 p, .int .i64 c, .int .i64 n, .slice (some ⟨a2, 0, none⟩) m cap2] 28)).alloc (.cells #[.int .i64 0, .int .i64 0, .int .i64 0, .slice none 0 0] 28)) Try.underlying28 rfl (by kernel_rfl) ?_)
    | (refine wpList_load_row rfl 28 _ rfl _ rfl 28 _ (0, 0) _ ((Own.at (w.alloc (.cells #[.int .i64 p, .int .i64 c, .int .i64 n, .slice (some ⟨a, 0, none⟩) l cap] 28)) #[.int .i64 p, .int .i64 c, .int .i64 n, .slice (some ⟨a2, 0, none⟩) m cap2] 28 (by simp : _ = w.heap.size + 1)).alloc (.cells #[.int .i64 0, .int .i64 0, .int .i64 0, .slice none 0 0] 28)) Try.underlying28 rfl (by kernel_rfl) ?_))
  obtain ⟨wd, rfl⟩ : ∃ x, x = w1 := ⟨_, rfl⟩
  have oX := oX1
  have oY := oY1
  have oR := oR1
  have bW := b1
  have ltX := oX.lt
  have ltY := oY.lt
  clear oX1 oY1 oR1 b1
  refine gen_fr (fun jx => ⟨List.toArray [.agg #[.int .i64 p, .int .i64 c, .int .i64 n, .slice (some ⟨a, 0, none⟩) l cap], .agg #[.int .i64 p, .int .i64 c, .int .i64 n, .slice (some ⟨a2, 0, none⟩) m cap2], .pointer (some ⟨w.heap.size, 0, none⟩), .pointer (some ⟨w.heap.size + 1, 0, none⟩), .pointer (some ⟨w.heap.size + 1 + 1, 0, none⟩), jx 5, jx 6, undef, undef, jx 9, jx 10, jx 11, jx 12, jx 13, jx 14, jx 15, jx 16, jx 17, jx 18, jx 19, jx 20, jx 21, jx 22, jx 23, jx 24, jx 25, jx 26, jx 27, jx 28, jx 29, jx 30, jx 31, jx 32, jx 33, jx 34, jx 35, jx 36, jx 37, jx 38, jx 39, jx 40, jx 41, jx 42, jx 43], []⟩) ?_ (by rfl)
  intro jx
  refine wp_region_facts (by kernel_rfl) (by kernel_rfl) (fun aF w' => ∃ x18 x19 x20 x21 x22 x23 x7 x8 : Value, aF = ⟨List.toArray [.agg #[.int .i64 p, .int .i64 c, .int .i64 n, .slice (some ⟨a, 0, none⟩) l cap], .agg #[.int .i64 p, .int .i64 c, .int .i64 n, .slice (some ⟨a2, 0, none⟩) m cap2], .pointer (some ⟨w.heap.size, 0, none⟩), .pointer (some ⟨w.heap.size + 1, 0, none⟩), .pointer (some ⟨w.heap.size + 1 + 1, 0, none⟩), jx 5, jx 6, x7, x8, jx 9, jx 10, jx 11, jx 12, jx 13, jx 14, jx 15, jx 16, jx 17, x18, x19, x20, x21, x22, x23, jx 24, jx 25, jx 26, jx 27, jx 28, jx 29, jx 30, jx 31, jx 32, jx 33, jx 34, jx 35, jx 36, jx 37, jx 38, jx 39, jx 40, jx 41, jx 42, jx 43], []⟩ ∧ Below wd.heap.size wd w' ∧ TwE x7 x8 w') (fun jF aF w' => match jF with | 0 => sl aF 18 = .agg #[.int .i64 p, .int .i64 c, .int .i64 n, .slice (some ⟨a, 0, none⟩) l cap] | 1 => sl aF 19 = .agg #[.int .i64 p, .int .i64 c, .int .i64 n, .slice (some ⟨a2, 0, none⟩) m cap2] | 2 => ∃ g cp : Nat, sl aF 20 = .agg #[.int .i64 p, .int .i64 c, .int .i64 n, .slice (some ⟨g, 0, none⟩) m1 cp] ∧ wd.heap.size ≤ g ∧ MnT w' wd.heap.size g M1 | 3 => sl aF 21 = .agg #[.int .i64 p, .int .i64 c, .int .i64 n, .slice (some ⟨a2, 0, none⟩) m cap2] | 4 => sl aF 22 = .agg #[.int .i64 p, .int .i64 c, .int .i64 n, .slice (some ⟨a, 0, none⟩) l cap] | 5 => ∃ g cp : Nat, sl aF 23 = .agg #[.int .i64 p, .int .i64 c, .int .i64 n, .slice (some ⟨g, 0, none⟩) m2 cp] ∧ wd.heap.size ≤ g ∧ MnT w' wd.heap.size g M2 | 6 => ∃ g : Nat, sl aF 7 = .pointer (some ⟨g, 0, none⟩) ∧ wd.heap.size ≤ g ∧ ∃ cs : Array Value, cs.size = 4 ∧ Own w' g cs 28 | 7 => ∃ g : Nat, sl aF 8 = .pointer (some ⟨g, 0, none⟩) ∧ wd.heap.size ≤ g ∧ ∃ cs : Array Value, cs.size = 4 ∧ Own w' g cs 28 | 8 => ∃ g g1 cp : Nat, sl aF 7 = .pointer (some ⟨g, 0, none⟩) ∧ wd.heap.size ≤ g ∧ Own w' g #[.int .i64 p, .int .i64 c, .int .i64 n, .slice (some ⟨g1, 0, none⟩) m1 cp] 28 ∧ MnT w' wd.heap.size g1 M1 | 9 => ∃ g g1 cp : Nat, sl aF 8 = .pointer (some ⟨g, 0, none⟩) ∧ wd.heap.size ≤ g ∧ Own w' g #[.int .i64 p, .int .i64 c, .int .i64 n, .slice (some ⟨g1, 0, none⟩) m2 cp] 28 ∧ MnT w' wd.heap.size g1 M2 | _ => True) ⟨_, _, _, _, _, _, undef, undef, rfl, (Below.refl _ _).drew, TwE.start _⟩ ?_ ?_
  · refine (AllOps.cons ?_ (AllOps.cons ?_ (AllOps.cons ?_ (AllOps.cons ?_ (AllOps.cons ?_ (AllOps.cons ?_ (AllOps.cons ?_ (AllOps.cons ?_ (AllOps.cons ?_ (AllOps.cons ?_ AllOps.nil))))))))))
    · rintro aF w0 ⟨x18, x19, x20, x21, x22, x23, x7, x8, rfl, hB, hI⟩ hd K hK
      go_wp2_with (first | (refine wpList_load_row rfl 28 _ rfl _ rfl 28 _ (0, 0) _ (oX.below hB ltX) Try.underlying28 rfl (by kernel_rfl) ?_))
      refine hK _ _ ⟨_, _, _, _, _, _, _, _, rfl, hB, hI⟩ (rfl) ?_
      rintro (_|_|_|_|_|_|_|_|_|_|_) hj hn h <;> first | exact h | exact absurd rfl hj | exact waits_no hn (by kernel_rfl)
    · rintro aF w0 ⟨x18, x19, x20, x21, x22, x23, x7, x8, rfl, hB, hI⟩ hd K hK
      go_wp2_with (first | (refine wpList_load_row rfl 28 _ rfl _ rfl 28 _ (0, 0) _ (oY.below hB ltY) Try.underlying28 rfl (by kernel_rfl) ?_))
      refine hK _ _ ⟨_, _, _, _, _, _, _, _, rfl, hB, hI⟩ (rfl) ?_
      rintro (_|_|_|_|_|_|_|_|_|_|_) hj hn h <;> first | exact h | exact absurd rfl hj | exact waits_no hn (by kernel_rfl)
    · rintro aF w0 ⟨x18, x19, x20, x21, x22, x23, x7, x8, rfl, hB, hI⟩ hd K hK
      have d0 : x18 = _ := hd 0 (by kernel_rfl)
      have d1 : x19 = _ := hd 1 (by kernel_rfl)
      subst d0 d1
      go_wp2_with (first | (go_at_call 60; ((with_reducible refine (hpo.out w0 (hR1.out _ (bW.trans (hB.mono bW.size))) (hR2.out _ (bW.trans (hB.mono bW.size)))).mono ?_); rintro e w2 ⟨⟨gx, cx, rfl, hcx, hMx⟩, hB2⟩)))
      refine hK _ _ ⟨_, _, _, _, _, _, _, _, rfl, hB.trans (hB2.mono hB.size), hI.grow hB2.size⟩ (⟨gx, cx, rfl, Nat.le_trans hB.size hMx.1, hMx.weak hB.size⟩) ?_
      rintro (_|_|_|_|_|_|_|_|_|_|_) hj hn h <;> first | exact h | exact absurd rfl hj | (obtain ⟨g, cp, e, hg, hO⟩ := h; exact ⟨g, cp, e, hg, hO.below hB2 hO.lt⟩) | (obtain ⟨g, e, hg, cs, hcs, hO⟩ := h; exact ⟨g, e, hg, cs, hcs, hO.below hB2 hO.lt⟩) | exact waits_no hn (by kernel_rfl)
    · rintro aF w0 ⟨x18, x19, x20, x21, x22, x23, x7, x8, rfl, hB, hI⟩ hd K hK
      go_wp2_with (first | (refine wpList_load_row rfl 28 _ rfl _ rfl 28 _ (0, 0) _ (oY.below hB ltY) Try.underlying28 rfl (by kernel_rfl) ?_))
      refine hK _ _ ⟨_, _, _, _, _, _, _, _, rfl, hB, hI⟩ (rfl) ?_
      rintro (_|_|_|_|_|_|_|_|_|_|_) hj hn h <;> first | exact h | exact absurd rfl hj | exact waits_no hn (by kernel_rfl)
    · rintro aF w0 ⟨x18, x19, x20, x21, x22, x23, x7, x8, rfl, hB, hI⟩ hd K hK
      go_wp2_with (first | (refine wpList_load_row rfl 28 _ rfl _ rfl 28 _ (0, 0) _ (oX.below hB ltX) Try.underlying28 rfl (by kernel_rfl) ?_))
      refine hK _ _ ⟨_, _, _, _, _, _, _, _, rfl, hB, hI⟩ (rfl) ?_
      rintro (_|_|_|_|_|_|_|_|_|_|_) hj hn h <;> first | exact h | exact absurd rfl hj | exact waits_no hn (by kernel_rfl)
    · rintro aF w0 ⟨x18, x19, x20, x21, x22, x23, x7, x8, rfl, hB, hI⟩ hd K hK
      have d0 : x21 = _ := hd 3 (by kernel_rfl)
      have d1 : x22 = _ := hd 4 (by kernel_rfl)
      subst d0 d1
      go_wp2_with (first | (go_at_call 60; ((with_reducible refine (hpq.out w0 (hR2.out _ (bW.trans (hB.mono bW.size))) (hR1.out _ (bW.trans (hB.mono bW.size)))).mono ?_); rintro e w2 ⟨⟨gx, cx, rfl, hcx, hMx⟩, hB2⟩)))
      refine hK _ _ ⟨_, _, _, _, _, _, _, _, rfl, hB.trans (hB2.mono hB.size), hI.grow hB2.size⟩ (⟨gx, cx, rfl, Nat.le_trans hB.size hMx.1, hMx.weak hB.size⟩) ?_
      rintro (_|_|_|_|_|_|_|_|_|_|_) hj hn h <;> first | exact h | exact absurd rfl hj | (obtain ⟨g, cp, e, hg, hO⟩ := h; exact ⟨g, cp, e, hg, hO.below hB2 hO.lt⟩) | (obtain ⟨g, e, hg, cs, hcs, hO⟩ := h; exact ⟨g, e, hg, cs, hcs, hO.below hB2 hO.lt⟩) | exact waits_no hn (by kernel_rfl)
    · rintro aF w0 ⟨x18, x19, x20, x21, x22, x23, x7, x8, rfl, hB, hI⟩ hd K hK
      go_wp2
      refine hK _ _ ⟨_, _, _, _, _, _, _, _, rfl, hB.alloc hB.size _, hI.left _⟩ (⟨_, rfl, hB.size, _, rfl, Own.new _ _ _⟩) ?_
      rintro (_|_|_|_|_|_|_|_|_|_|_) hj hn h <;> first | exact h | exact absurd rfl hj | (obtain ⟨g, cp, e, hg, hO⟩ := h; exact ⟨g, cp, e, hg, hO.alloc _⟩) | (obtain ⟨g, e, hg, cs, hcs, hO⟩ := h; exact ⟨g, e, hg, cs, hcs, hO.alloc _⟩) | exact waits_no hn (by kernel_rfl)
    · rintro aF w0 ⟨x18, x19, x20, x21, x22, x23, x7, x8, rfl, hB, hI⟩ hd K hK
      go_wp2
      refine hK _ _ ⟨_, _, _, _, _, _, _, _, rfl, hB.alloc hB.size _, hI.right _⟩ (⟨_, rfl, hB.size, _, rfl, Own.new _ _ _⟩) ?_
      rintro (_|_|_|_|_|_|_|_|_|_|_) hj hn h <;> first | exact h | exact absurd rfl hj | (obtain ⟨g, cp, e, hg, hO⟩ := h; exact ⟨g, cp, e, hg, hO.alloc _⟩) | (obtain ⟨g, e, hg, cs, hcs, hO⟩ := h; exact ⟨g, e, hg, cs, hcs, hO.alloc _⟩) | exact waits_no hn (by kernel_rfl)
    · rintro aF w0 ⟨x18, x19, x20, x21, x22, x23, x7, x8, rfl, hB, hI⟩ hd K hK
      obtain ⟨g, e, hg, cs, hcs, hO⟩ := hd 6 (by kernel_rfl)
      have e : x7 = _ := e
      obtain ⟨g1, cp1, ex, hg1, hM⟩ := hd 2 (by kernel_rfl)
      have ex : x20 = _ := ex
      subst e ex
      go_wp2_with (first | (refine wpList_store_own rfl 28 _ _ rfl _ _ rfl rfl 28 _ hO (by kernel_rfl) (by rw [hcs]; rfl) (by simp [Value.oneCell']) ?_; intro w2 hO2 hN2))
      refine hK _ _ ⟨_, _, _, _, _, _, _, _, rfl, hB.trans (hN2.below.mono hg), hI.grow (by rw [hN2.size]; exact Nat.le_refl _)⟩ (⟨g, g1, cp1, rfl, hg, hO2, hM.nl2 hN2 hO⟩) ?_
      rintro (_|_|_|_|_|_|_|_|_|_|_) hj hn h <;> first | exact h | exact absurd rfl hj | exact ⟨g, rfl, hg, _, rfl, hO2⟩ | (obtain ⟨g3, e3, hg3, cs3, hcs3, hO3⟩ := h; exact ⟨g3, e3, hg3, cs3, hcs3, hO3.only hN2 (fun e => hI.2.2 _ _ rfl e3 e.symm)⟩) | (obtain ⟨g3, cp3, e, hg3, hO3⟩ := h; exact ⟨g3, cp3, e, hg3, hO3.nl2 hN2 hO⟩) | exact waits_no hn (by kernel_rfl)
    · rintro aF w0 ⟨x18, x19, x20, x21, x22, x23, x7, x8, rfl, hB, hI⟩ hd K hK
      obtain ⟨g, e, hg, cs, hcs, hO⟩ := hd 7 (by kernel_rfl)
      have e : x8 = _ := e
      obtain ⟨g1, cp1, ex, hg1, hM⟩ := hd 5 (by kernel_rfl)
      have ex : x23 = _ := ex
      subst e ex
      go_wp2_with (first | (refine wpList_store_own rfl 28 _ _ rfl _ _ rfl rfl 28 _ hO (by kernel_rfl) (by rw [hcs]; rfl) (by simp [Value.oneCell']) ?_; intro w2 hO2 hN2))
      refine hK _ _ ⟨_, _, _, _, _, _, _, _, rfl, hB.trans (hN2.below.mono hg), hI.grow (by rw [hN2.size]; exact Nat.le_refl _)⟩ (⟨g, g1, cp1, rfl, hg, hO2, hM.nl2 hN2 hO⟩) ?_
      rintro (_|_|_|_|_|_|_|_|_|_|_) hj hn h <;> first | exact h | exact absurd rfl hj | exact ⟨g, rfl, hg, _, rfl, hO2⟩ | (obtain ⟨g3, e3, hg3, cs3, hcs3, hO3⟩ := h; exact ⟨g3, e3, hg3, cs3, hcs3, hO3.only hN2 (hI.2.2 _ _ e3 rfl)⟩) | (obtain ⟨g3, g4, cp4, e3, hg3, hO3, hM3⟩ := h; exact ⟨g3, g4, cp4, e3, hg3, hO3.only hN2 (hI.2.2 _ _ e3 rfl), hM3.nl2 hN2 hO⟩) | (obtain ⟨g3, cp3, e, hg3, hO3⟩ := h; exact ⟨g3, cp3, e, hg3, hO3.nl2 hN2 hO⟩) | exact waits_no hn (by kernel_rfl)
  · rintro aF w1 ⟨x18, x19, x20, x21, x22, x23, x7, x8, rfl, hB, hI⟩ hF
    obtain ⟨b7, g1, q1, e7, hg7, oA, hA⟩ := hF 8 (by decide)
    obtain ⟨b8, g2, q2, e8, hg8, oB, hBm⟩ := hF 9 (by decide)
    have e7 : x7 = _ := e7
    have e8 : x8 = _ := e8
    subst e7 e8
    have h78 : b7 ≠ b8 := hI.2.2 _ _ rfl rfl
    have oX1 := oX.below hB ltX
    have oR1 := oR.below hB oR.lt
    have b1 := bW.trans (hB.mono bW.size)
    have hA' : MnT w1 w.heap.size g1 M1 := hA.weak bW.size
    have hB' : MnT w1 w.heap.size g2 M2 := hBm.weak bW.size
    have c7 : w1.cell? ⟨b7, 3, none⟩ = some (.slice (some ⟨g1, 0, none⟩) m1 q1) := oA.cell 3
    have c8 : w1.cell? ⟨b8, 3, none⟩ = some (.slice (some ⟨g2, 0, none⟩) m2 q2) := oB.cell 3
    clear hF hI hB hA hBm oX oY bW
    obtain ⟨wA, rfl⟩ : ∃ x, x = w1 := ⟨_, rfl⟩
    have h1i : ¬ (140 : Int) < (m1 : Int) := by omega
    have h2i : ¬ (140 : Int) < (m2 : Int) := by omega
    go_wp2_with (first
      | (refine wpList_load_row rfl 28 _ rfl _ rfl 28 _ (0, 0) _ oA Try.underlying28 rfl (by kernel_rfl) ?_)
      | (refine wpList_load_row rfl 28 _ rfl _ rfl 28 _ (0, 0) _ oB Try.underlying28 rfl (by kernel_rfl) ?_)
      | (go_at_call 47; ((with_reducible refine (hsu.out g1 q1 g2 q2 wA (hrA.out _ _ _ hA') (hrB.out _ _ _ hB')).mono ?_); rintro e w4 ⟨⟨g4, cap4, rfl, hc4, hM4⟩, hB4⟩; have oR4 := oR1.below hB4 oR1.lt; have b4 := b1.trans (hB4.mono b1.size)))
      | (go_at_call 46; ((with_reducible refine (htd.out g4 cap4 w4).mono ?_); rintro e w5 ⟨qr, cr, rfl, hqr, hB5⟩; have oR5 := oR4.below hB5 oR4.lt; have b5 := b4.trans (hB5.mono b4.size); have hM5 := hM4.below hB5 hM4.lt))
      | (refine wpList_store_own rfl 28 _ _ rfl _ _ rfl rfl 28 _ (Own.new w5 _ _) (by kernel_rfl) rfl (by simp [Value.oneCell']) ?_; intro w6 oB6 hN6; have oR6 := (oR5.alloc _).only hN6 (by have := oR5.lt; omega); have hM6 := (hM5.alloc _).onl hN6 (by have := hM5.lt; omega); have b6 := (b5.alloc b5.size _).trans (hN6.below.mono b5.size))
      | (refine wpList_load_row rfl 28 _ rfl _ rfl 28 _ (0, 0) _ oB6 Try.underlying28 rfl (by kernel_rfl) ?_)
      | (refine wpList_store_own rfl 28 _ _ rfl _ _ rfl rfl 28 _ oR6 (by kernel_rfl) rfl (by simp [Value.oneCell']) ?_; intro w7 oR7 hN7))
    have hM7 : MnT w7 w.heap.size g4 R := (hM6.weak b1.size).nl2 hN7 oR6
    have hr7 : Res w7 w.heap.size qr L1 := by
      rcases hqr with ⟨rfl, rfl⟩ | ⟨rfl, rfl⟩
      · exact Res.own hM7
      · exact .inl ⟨rfl, rfl⟩
    refine bodyPost_ret (v := .tuple #[.agg #[.int .i64 p1, .int .i64 c1, .int .i64 n1', .slice qr l1 cr], .int .i64 cd]) (results_row_tmp rfl _ _ _ _ _ (0, 0) _ rfl oR7 Try.underlying28 rfl (by kernel_rfl) _ rfl) rfl ⟨⟨qr, cr, rfl, hr7⟩, b6.trans (hN7.below.mono (by omega))⟩
end Go.Proofs.Ytpmcngmphkegnaa
