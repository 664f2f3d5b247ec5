/- MultiplyElements: both sides. (Written by genmuc.py.) -/
import Derived.Test.YtpmcngmphkegnaaAdc
import Derived.Test.YtpmcngmphkegnaaPos
namespace Go.Proofs.Ytpmcngmphkegnaa
open Go.RowKit Go.Lib
set_option linter.unusedVariables false
set_option linter.unusedSimpArgs false
set_option maxRecDepth 100000 in
set_option maxHeartbeats 4000000 in
theorem mueI_bad (p c n p2 c2 n2 : Int) (a cap a2 cap2 : Nat) (xs ys : List Tm) (hts : ∀ t ∈ xs, t.2.1.length = 16 ∧ Bytes t.2.1) (hx : xs.length ≤ 1048576) (hts2 : ∀ t ∈ ys, t.2.1.length = 16 ∧ Bytes t.2.1) (hy : ys.length ≤ 1048576) (k : Int) (hk : prC p c n xs p2 c2 n2 ys = k) (h0 : k ≠ 0) (w : World) (hR : RdT w (some ⟨a, 0, none⟩) xs) (hRy : RdT w (some ⟨a2, 0, none⟩) ys) :
    Calls Try.prog 24 #[.agg (ecl p c n (.slice (some ⟨a, 0, none⟩) xs.length cap)), .agg (ecl p2 c2 n2 (.slice (some ⟨a2, 0, none⟩) ys.length cap2))] w fun e w' => e = .returned (.tuple #[.agg (ecl 0 0 0 (.slice none 0 0)), .int .i64 k]) ∧ Below w.heap.size w w' := by
  have hpr := Lib.hid (fun w h1 h2 => prI_any p c n p2 c2 n2 (some ⟨a, 0, none⟩) (some ⟨a2, 0, none⟩) cap cap2 xs ys hts hx hts2 hy w h1 h2)
  rw [hk] at hpr
  have hk0 : (k != 0) = true := by simpa using h0
  have hR1 := Lib.hid (fun w' (hb : Below w.heap.size w w') => hR.below hb)
  have hR2 := Lib.hid (fun w' (hb : Below w.heap.size w w') => hRy.below hb)
  obtain ⟨l, hll⟩ : ∃ l, xs.length = l := ⟨_, rfl⟩
  obtain ⟨m, hmm⟩ : ∃ m, ys.length = m := ⟨_, rfl⟩
  rw [hll, hmm] at hpr ⊢
  have b00 := built00
  clear hts hx hts2 hy hk h0 hR hRy hll hmm
  unfold ecl at *
  go_enter Try.func24, Try.ntmps24
  go_wp2_with (first
    | (go_at_call 49; (have wb := ((((Below.refl w.heap.size w).alloc (Nat.le_refl _) (.cells #[.int .i64 p, .int .i64 c, .int .i64 n, .slice (some ⟨a, 0, none⟩) l cap] 28)).alloc (by simp) (.cells #[.int .i64 p2, .int .i64 c2, .int .i64 n2, .slice (some ⟨a2, 0, none⟩) m cap2] 28)).alloc (by simp; omega) (.cells #[.int .i64 0, .int .i64 0, .int .i64 0, .slice none 0 0] 28)); (with_reducible refine (hpr.out _ (hR1.out _ wb) (hR2.out _ wb)).mono ?_); rintro e w1 ⟨rfl, hB1⟩; have oX1 := (((Own.new w #[.int .i64 p, .int .i64 c, .int .i64 n, .slice (some ⟨a, 0, none⟩) l cap] 28).alloc (.cells #[.int .i64 p2, .int .i64 c2, .int .i64 n2, .slice (some ⟨a2, 0, none⟩) m cap2] 28)).alloc (.cells #[.int .i64 0, .int .i64 0, .int .i64 0, .slice none 0 0] 28)).below hB1 (by simp; omega); have oY1 := ((Own.at (w.alloc (.cells #[.int .i64 p, .int .i64 c, .int .i64 n, .slice (some ⟨a, 0, none⟩) l cap] 28)) #[.int .i64 p2, .int .i64 c2, .int .i64 n2, .slice (some ⟨a2, 0, none⟩) m cap2] 28 (by simp : _ = w.heap.size + 1)).alloc (.cells #[.int .i64 0, .int .i64 0, .int .i64 0, .slice none 0 0] 28)).below hB1 (by simp); have oR1 := (Own.at ((w.alloc (.cells #[.int .i64 p, .int .i64 c, .int .i64 n, .slice (some ⟨a, 0, none⟩) l cap] 28)).alloc (.cells #[.int .i64 p2, .int .i64 c2, .int .i64 n2, .slice (some ⟨a2, 0, none⟩) m cap2] 28)) #[.int .i64 0, .int .i64 0, .int .i64 0, .slice none 0 0] 28 (by simp : _ = w.heap.size + 1 + 1)).below hB1 (by simp); have b1 : Below w.heap.size w w1 := wb.trans (hB1.mono (by simp; omega)); clear hB1 wb))
    | (refine wpList_load_row rfl 28 _ rfl _ rfl 28 _ (0, 0) _ (((Own.new w #[.int .i64 p, .int .i64 c, .int .i64 n, .slice (some ⟨a, 0, none⟩) l cap] 28).alloc (.cells #[.int .i64 p2, .int .i64 c2, .int .i64 n2, .slice (some ⟨a2, 0, none⟩) m cap2] 28)).alloc (.cells #[.int .i64 0, .int .i64 0, .int .i64 0, .slice none 0 0] 28)) Try.underlying28 rfl (by kernel_rfl) ?_)
    | (refine wpList_load_row rfl 28 _ rfl _ rfl 28 _ (0, 0) _ ((Own.at (w.alloc (.cells #[.int .i64 p, .int .i64 c, .int .i64 n, .slice (some ⟨a, 0, none⟩) l cap] 28)) #[.int .i64 p2, .int .i64 c2, .int .i64 n2, .slice (some ⟨a2, 0, none⟩) m cap2] 28 (by simp : _ = w.heap.size + 1)).alloc (.cells #[.int .i64 0, .int .i64 0, .int .i64 0, .slice none 0 0] 28)) Try.underlying28 rfl (by kernel_rfl) ?_)
    | (refine wpList_store_own rfl 28 _ _ rfl _ _ rfl rfl 28 _ oR1 (by kernel_rfl) rfl (by simp [Value.oneCell']) ?_; intro w5 oR5 hN5))
  refine bodyPost_ret (v := .tuple #[.agg #[.int .i64 0, .int .i64 0, .int .i64 0, .slice none 0 0], .int .i64 k]) (results_row_tmp rfl _ _ _ _ _ (0, 0) _ rfl oR5 Try.underlying28 rfl (by kernel_rfl) _ rfl) rfl ⟨rfl, b1.trans (hN5.below.mono (by omega))⟩
set_option maxRecDepth 100000 in
set_option maxHeartbeats 4000000 in
theorem mueS_bad (p c n p2 c2 n2 : Int) (a cap a2 cap2 : Nat) (xs ys : List Tm) (hts : ∀ t ∈ xs, t.2.1.length = 16 ∧ Bytes t.2.1) (hx : xs.length ≤ 1048576) (hts2 : ∀ t ∈ ys, t.2.1.length = 16 ∧ Bytes t.2.1) (hy : ys.length ≤ 1048576) (hpw : -9223372036854775808 ≤ p ∧ p ≤ 9223372036854775807) (hpw2 : -9223372036854775808 ≤ p2 ∧ p2 ≤ 9223372036854775807) (k : Int) (hk : prC p c n xs p2 c2 n2 ys = k) (h0 : k ≠ 0) (w : World) (hR : RdT w (some ⟨a, 0, none⟩) xs) (hRy : RdT w (some ⟨a2, 0, none⟩) ys) :
    Calls Try.prog 23 #[.agg (ecl p c n (.slice (some ⟨a, 0, none⟩) xs.length cap)), .agg (ecl p2 c2 n2 (.slice (some ⟨a2, 0, none⟩) ys.length cap2))] w fun e w' => e = .returned (.tuple #[.agg (ecl 0 0 0 (.slice none 0 0)), .int .i64 k]) ∧ Below w.heap.size w w' := by
  have hpr := Lib.hid (fun w h1 h2 => prS_any p c n p2 c2 n2 (some ⟨a, 0, none⟩) (some ⟨a2, 0, none⟩) cap cap2 xs ys hts hx hts2 hy hpw hpw2 w h1 h2)
  rw [hk] at hpr
  have hk0 : (k != 0) = true := by simpa using h0
  have hR1 := Lib.hid (fun w' (hb : Below w.heap.size w w') => hR.below hb)
  have hR2 := Lib.hid (fun w' (hb : Below w.heap.size w w') => hRy.below hb)
  obtain ⟨l, hll⟩ : ∃ l, xs.length = l := ⟨_, rfl⟩
  obtain ⟨m, hmm⟩ : ∃ m, ys.length = m := ⟨_, rfl⟩
  rw [hll, hmm] at hpr ⊢
  have b00 := built00
  clear hts hx hts2 hy hk h0 hR hRy hll hmm hpw hpw2
  unfold ecl at *
  go_enter Try.func23, Try.ntmps23
  go_wp2_with (first
    | (go_at_call 45; (have wb := ((((Below.refl w.heap.size w).alloc (Nat.le_refl _) (.cells #[.int .i64 p, .int .i64 c, .int .i64 n, .slice (some ⟨a, 0, none⟩) l cap] 28)).alloc (by simp) (.cells #[.int .i64 p2, .int .i64 c2, .int .i64 n2, .slice (some ⟨a2, 0, none⟩) m cap2] 28)).alloc (by simp; omega) (.cells #[.int .i64 0, .int .i64 0, .int .i64 0, .slice none 0 0] 28)); (with_reducible refine (hpr.out _ (hR1.out _ wb) (hR2.out _ wb)).mono ?_); rintro e w1 ⟨rfl, hB1⟩; have oX1 := (((Own.new w #[.int .i64 p, .int .i64 c, .int .i64 n, .slice (some ⟨a, 0, none⟩) l cap] 28).alloc (.cells #[.int .i64 p2, .int .i64 c2, .int .i64 n2, .slice (some ⟨a2, 0, none⟩) m cap2] 28)).alloc (.cells #[.int .i64 0, .int .i64 0, .int .i64 0, .slice none 0 0] 28)).below hB1 (by simp; omega); have oY1 := ((Own.at (w.alloc (.cells #[.int .i64 p, .int .i64 c, .int .i64 n, .slice (some ⟨a, 0, none⟩) l cap] 28)) #[.int .i64 p2, .int .i64 c2, .int .i64 n2, .slice (some ⟨a2, 0, none⟩) m cap2] 28 (by simp : _ = w.heap.size + 1)).alloc (.cells #[.int .i64 0, .int .i64 0, .int .i64 0, .slice none 0 0] 28)).below hB1 (by simp); have oR1 := (Own.at ((w.alloc (.cells #[.int .i64 p, .int .i64 c, .int .i64 n, .slice (some ⟨a, 0, none⟩) l cap] 28)).alloc (.cells #[.int .i64 p2, .int .i64 c2, .int .i64 n2, .slice (some ⟨a2, 0, none⟩) m cap2] 28)) #[.int .i64 0, .int .i64 0, .int .i64 0, .slice none 0 0] 28 (by simp : _ = w.heap.size + 1 + 1)).below hB1 (by simp); have b1 : Below w.heap.size w w1 := wb.trans (hB1.mono (by simp; omega)); clear hB1 wb))
    | (refine wpList_load_row rfl 28 _ rfl _ rfl 28 _ (0, 0) _ (((Own.new w #[.int .i64 p, .int .i64 c, .int .i64 n, .slice (some ⟨a, 0, none⟩) l cap] 28).alloc (.cells #[.int .i64 p2, .int .i64 c2, .int .i64 n2, .slice (some ⟨a2, 0, none⟩) m cap2] 28)).alloc (.cells #[.int .i64 0, .int .i64 0, .int .i64 0, .slice none 0 0] 28)) Try.underlying28 rfl (by kernel_rfl) ?_)
    | (refine wpList_load_row rfl 28 _ rfl _ rfl 28 _ (0, 0) _ ((Own.at (w.alloc (.cells #[.int .i64 p, .int .i64 c, .int .i64 n, .slice (some ⟨a, 0, none⟩) l cap] 28)) #[.int .i64 p2, .int .i64 c2, .int .i64 n2, .slice (some ⟨a2, 0, none⟩) m cap2] 28 (by simp : _ = w.heap.size + 1)).alloc (.cells #[.int .i64 0, .int .i64 0, .int .i64 0, .slice none 0 0] 28)) Try.underlying28 rfl (by kernel_rfl) ?_)
    | (refine wpList_store_own rfl 28 _ _ rfl _ _ rfl rfl 28 _ oR1 (by kernel_rfl) rfl (by simp [Value.oneCell']) ?_; intro w5 oR5 hN5))
  refine bodyPost_ret (v := .tuple #[.agg #[.int .i64 0, .int .i64 0, .int .i64 0, .slice none 0 0], .int .i64 k]) (results_row_tmp rfl _ _ _ _ _ (0, 0) _ rfl oR5 Try.underlying28 rfl (by kernel_rfl) _ rfl) rfl ⟨rfl, b1.trans (hN5.below.mono (by omega))⟩
set_option maxRecDepth 100000 in
set_option maxHeartbeats 4000000 in
theorem mueI_ok (p c n : Int) (a cap a2 cap2 : Nat) (xs ys : List Tm) (hts : ∀ t ∈ xs, t.2.1.length = 16 ∧ Bytes t.2.1) (hx : xs.length ≤ 1048576) (hts2 : ∀ t ∈ ys, t.2.1.length = 16 ∧ Bytes t.2.1) (hy : ys.length ≤ 1048576) (hk : prC p c n xs p c n ys = 0) (hx1 : elB p c n xs = true) (hy1 : elB p c n ys = true) (hlR : (prN p c n xs ys).length ≤ 140) (w : World) (hR : RdT w (some ⟨a, 0, none⟩) xs) (hRy : RdT w (some ⟨a2, 0, none⟩) ys) :
    Calls Try.prog 24 #[.agg (ecl p c n (.slice (some ⟨a, 0, none⟩) xs.length cap)), .agg (ecl p c n (.slice (some ⟨a2, 0, none⟩) ys.length cap2))] w fun e w' => (∃ q cap, e = .returned (.tuple #[.agg (ecl p c n (.slice q (prN p c n xs ys).length cap)), .int .i64 0]) ∧ Res w' w.heap.size q (prN p c n xs ys)) ∧ Below w.heap.size w w' := by
  obtain ⟨hp, hc, hn, hl, hG0, hsz, hp2, hp97, hto⟩ := elB_good hx1 hts
  obtain ⟨_, _, _, hl2, hG2, hsz2, _, _, hto2⟩ := elB_good hy1 hts2
  have hX : ∀ t ∈ xs, t.1 = n ∧ VD (kTm t) ∧ 0 ≤ t.2.2 ∧ t.2.2 ≤ 100 := fun t ht => ⟨hsz t ht, (hto t ht).1, (hto t ht).2.1, (hto t ht).2.2⟩
  have hY : ∀ t ∈ ys, t.1 = n ∧ VD (kTm t) ∧ 0 ≤ t.2.2 ∧ t.2.2 ≤ 100 := fun t ht => ⟨hsz2 t ht, (hto2 t ht).1, (hto2 t ht).2.1, (hto2 t ht).2.2⟩
  have hpr := Lib.hid (fun w h1 h2 => prI_any p c n p c n (some ⟨a, 0, none⟩) (some ⟨a2, 0, none⟩) cap cap2 xs ys hts hx hts2 hy w h1 h2)
  rw [hk] at hpr
  have hpo := Lib.hid (fun w h1 h2 => poeI_any p c n p c n n (some ⟨a, 0, none⟩) (some ⟨a2, 0, none⟩) cap cap2 xs ys hX hY hl hl2 hp2 hp97 hc.1 hc.2 w h1 h2)
  have hG : GoodT p (prN p c n xs ys) := prN_good (by omega) (fun t ht => ⟨(hX t ht).1, (hX t ht).2.1⟩) (fun t ht => ⟨(hY t ht).1, (hY t ht).2.1⟩)
  have hln : (prN p c n xs ys).length ≤ 19600 := Nat.le_trans (prN_len p c n xs ys) (Nat.mul_le_mul hl hl2)
  obtain ⟨R, hRR⟩ : ∃ R, prN p c n xs ys = R := ⟨_, rfl⟩
  rw [hRR] at hpo hG hln hlR ⊢
  obtain ⟨l, hll⟩ : ∃ l, xs.length = l := ⟨_, rfl⟩
  obtain ⟨m, hmm⟩ : ∃ m, ys.length = m := ⟨_, rfl⟩
  have heos := Lib.hid (fun b nn W hM => eos_any p c n (some ⟨a, 0, none⟩) l cap b nn p R W hM hG hp97 (by omega))
  rw [hll] at hpr hpo ⊢
  rw [hmm] at hpr hpo ⊢
  have hR1 := Lib.hid (fun w' (hb : Below w.heap.size w w') => hR.below hb)
  have hR2 := Lib.hid (fun w' (hb : Below w.heap.size w w') => hRy.below hb)
  clear hts hx hts2 hy hk hx1 hy1 hR hRy hp hc hn hl hG0 hsz hto hl2 hG2 hsz2 hto2 hG hln hlR hRR hll hmm hX hY
  unfold ecl at *
  go_enter Try.func24, Try.ntmps24
  go_upto_region 4 with (first
    | (go_at_call 49; (have wb := ((((Below.refl w.heap.size w).alloc (Nat.le_refl _) (.cells #[.int .i64 p, .int .i64 c, .int .i64 n, .slice (some ⟨a, 0, none⟩) l cap] 28)).alloc (by simp) (.cells #[.int .i64 p, .int .i64 c, .int .i64 n, .slice (some ⟨a2, 0, none⟩) m cap2] 28)).alloc (by simp; omega) (.cells #[.int .i64 0, .int .i64 0, .int .i64 0, .slice none 0 0] 28)); (with_reducible refine (hpr.out _ (hR1.out _ wb) (hR2.out _ wb)).mono ?_); rintro e w1 ⟨rfl, hB1⟩; have oX1 := (((Own.new w #[.int .i64 p, .int .i64 c, .int .i64 n, .slice (some ⟨a, 0, none⟩) l cap] 28).alloc (.cells #[.int .i64 p, .int .i64 c, .int .i64 n, .slice (some ⟨a2, 0, none⟩) m cap2] 28)).alloc (.cells #[.int .i64 0, .int .i64 0, .int .i64 0, .slice none 0 0] 28)).below hB1 (by simp; omega); have oY1 := ((Own.at (w.alloc (.cells #[.int .i64 p, .int .i64 c, .int .i64 n, .slice (some ⟨a, 0, none⟩) l cap] 28)) #[.int .i64 p, .int .i64 c, .int .i64 n, .slice (some ⟨a2, 0, none⟩) m cap2] 28 (by simp : _ = w.heap.size + 1)).alloc (.cells #[.int .i64 0, .int .i64 0, .int .i64 0, .slice none 0 0] 28)).below hB1 (by simp); have oR1 := (Own.at ((w.alloc (.cells #[.int .i64 p, .int .i64 c, .int .i64 n, .slice (some ⟨a, 0, none⟩) l cap] 28)).alloc (.cells #[.int .i64 p, .int .i64 c, .int .i64 n, .slice (some ⟨a2, 0, none⟩) m cap2] 28)) #[.int .i64 0, .int .i64 0, .int .i64 0, .slice none 0 0] 28 (by simp : _ = w.heap.size + 1 + 1)).below hB1 (by simp); have b1 : Below w.heap.size w w1 := wb.trans (hB1.mono (by simp; omega)); clear hB1 wb))
    | (refine wpList_load_row rfl 28 _ rfl _ rfl 28 _ (0, 0) _ (((Own.new w #[.int .i64 p, .int .i64 c, .int .i64 n, .slice (some ⟨a, 0, none⟩) l cap] 28).alloc (.cells #[.int .i64 p, .int .i64 c, .int .i64 n, .slice (some ⟨a2, 0, none⟩) m cap2] 28)).alloc (.cells #[.int .i64 0, .int .i64 0, .int .i64 0, .slice none 0 0] 28)) Try.underlying28 rfl (by kernel_rfl) ?_)
    | (refine wpList_load_row rfl 28 _ rfl _ rfl 28 _ (0, 0) _ ((Own.at (w.alloc (.cells #[.int .i64 p, .int .i64 c, .int .i64 n, .slice (some ⟨a, 0, none⟩) l cap] 28)) #[.int .i64 p, .int .i64 c, .int .i64 n, .slice (some ⟨a2, 0, none⟩) m cap2] 28 (by simp : _ = w.heap.size + 1)).alloc (.cells #[.int .i64 0, .int .i64 0, .int .i64 0, .slice none 0 0] 28)) Try.underlying28 rfl (by kernel_rfl) ?_))
  have wz := trivial
  refine wp_region_st (fun x => Own x w.heap.size #[.int .i64 p, .int .i64 c, .int .i64 n, .slice (some ⟨a, 0, none⟩) l cap] 28 ∧ Own x (w.heap.size + 1) #[.int .i64 p, .int .i64 c, .int .i64 n, .slice (some ⟨a2, 0, none⟩) m cap2] 28) [(true, 0), (true, 1), (true, 2), (false, 3), (false, 4), (true, 5), (true, 6)] 7 (by kernel_rfl) (by kernel_rfl) ⟨oX1.drewN 1, oY1.drewN 1⟩ ?_
  have oXd : Own { w1 with drawn := w1.drawn + 1 } w.heap.size #[.int .i64 p, .int .i64 c, .int .i64 n, .slice (some ⟨a, 0, none⟩) l cap] 28 := oX1
  have oYd : Own { w1 with drawn := w1.drawn + 1 } (w.heap.size + 1) #[.int .i64 p, .int .i64 c, .int .i64 n, .slice (some ⟨a2, 0, none⟩) m cap2] 28 := oY1
  have oRd : Own { w1 with drawn := w1.drawn + 1 } (w.heap.size + 1 + 1) #[.int .i64 0, .int .i64 0, .int .i64 0, .slice none 0 0] 28 := oR1
  have bd : Below w.heap.size w { w1 with drawn := w1.drawn + 1 } := b1.drew
  clear oX1 oY1 oR1 b1
  generalize ({ w1 with drawn := w1.drawn + 1 } : World) = w3 at *
  simp only [List.map_cons, List.map_nil, opS'_mk, opN_zero, opN_succ, List.drop_succ_cons, List.drop_zero]
  (apply wpSt_read; · (intro wd hS K hK; rw [if_pos (by rfl)]; refine still_load_row 28 (.tmp 2) rfl w.heap.size rfl 28 #[.int .i64 p, .int .i64 c, .int .i64 n, .slice (some ⟨a, 0, none⟩) l cap] _ hS.1 Try.underlying28 rfl (by kernel_rfl) ?_; exact hK))
  (apply wpSt_read; · (intro wd hS K hK; rw [if_pos (by rfl)]; refine still_load_row 28 (.tmp 2) rfl w.heap.size rfl 28 #[.int .i64 p, .int .i64 c, .int .i64 n, .slice (some ⟨a, 0, none⟩) l cap] _ hS.1 Try.underlying28 rfl (by kernel_rfl) ?_; exact hK))
  (apply wpSt_read; · (intro wd hS K hK; rw [if_pos (by rfl)]; refine still_load_row 28 (.tmp 3) rfl (w.heap.size + 1) rfl 28 #[.int .i64 p, .int .i64 c, .int .i64 n, .slice (some ⟨a2, 0, none⟩) m cap2] _ hS.2 Try.underlying28 rfl (by kernel_rfl) ?_; exact hK))
  refine wpSt_keep (fun K hK => ?_)
  go_wp2_with (first
    | (go_at_call 61; ((with_reducible refine (hpo.out w3 (hR1.out _ bd) (hR2.out _ bd)).mono ?_); rintro e w4 ⟨⟨b, nn, rfl, hnn, hbb, hM4⟩, hB4⟩)))
  have oX4 := oXd.below hB4 oXd.lt
  have oY4 := oYd.below hB4 oYd.lt
  have oR4 := oRd.below hB4 oRd.lt
  have b4 := bd.trans (hB4.mono bd.size)
  refine hK _ _ ⟨oX4, oY4⟩ rfl ?_
  clear hK K oXd oYd oRd hB4
  refine wpSt_keep (fun K hK => ?_)
  go_wp2_with (first
    | (go_at_call 51; ((with_reducible refine (heos.out b nn w4 hM4).mono ?_); rintro e w5 ⟨qt, mt, ct, rfl, hT5, hB5⟩)))
  have oR5 := oR4.below hB5 oR4.lt
  have b5 := b4.trans (hB5.mono b4.size)
  refine hK _ _ ⟨oX4.below hB5 oX4.lt, oY4.below hB5 oY4.lt⟩ rfl ?_
  clear hK K
  (apply wpSt_read; · (intro wd hS K hK; clear hS; go_simp; exact hK))
  (apply wpSt_read; · (intro wd hS K hK; clear hS; go_simp; exact hK))
  refine wpSt_nil ?_
  go_wp2_with (first
    | (refine wpList_store_own rfl 28 _ _ rfl _ _ rfl rfl 28 _ oR5 (by kernel_rfl) rfl (by simp [Value.oneCell']) ?_; intro w6 oR6 hN6))
  obtain ⟨rfl, hr⟩ := hT5.res
  have hr6 : Res w6 w.heap.size qt R := (hr.onl hN6 (by have := Own.lt oR4; omega)).weak b4.size
  refine bodyPost_ret (v := .tuple #[.agg #[.int .i64 p, .int .i64 c, .int .i64 n, .slice qt R.length ct], .int .i64 0]) (results_row_tmp rfl _ _ _ _ _ (0, 0) _ rfl oR6 Try.underlying28 rfl (by kernel_rfl) _ rfl) rfl ⟨⟨qt, ct, rfl, hr6⟩, b5.trans (hN6.below.mono (by omega))⟩
set_option maxRecDepth 100000 in
set_option maxHeartbeats 4000000 in
theorem mueI_many (p c n : Int) (a cap a2 cap2 : Nat) (xs ys : List Tm) (hts : ∀ t ∈ xs, t.2.1.length = 16 ∧ Bytes t.2.1) (hx : xs.length ≤ 1048576) (hts2 : ∀ t ∈ ys, t.2.1.length = 16 ∧ Bytes t.2.1) (hy : ys.length ≤ 1048576) (hk : prC p c n xs p c n ys = 0) (hx1 : elB p c n xs = true) (hy1 : elB p c n ys = true) (hlR : 140 < (prN p c n xs ys).length) (w : World) (hR : RdT w (some ⟨a, 0, none⟩) xs) (hRy : RdT w (some ⟨a2, 0, none⟩) ys) :
    Calls Try.prog 24 #[.agg (ecl p c n (.slice (some ⟨a, 0, none⟩) xs.length cap)), .agg (ecl p c n (.slice (some ⟨a2, 0, none⟩) ys.length cap2))] w fun e w' => e = .returned (.tuple #[.agg (ecl 0 0 0 (.slice none 0 0)), .int .i64 3]) ∧ Below w.heap.size w w' := by
  obtain ⟨hp, hc, hn, hl, hG0, hsz, hp2, hp97, hto⟩ := elB_good hx1 hts
  obtain ⟨_, _, _, hl2, hG2, hsz2, _, _, hto2⟩ := elB_good hy1 hts2
  have hX : ∀ t ∈ xs, t.1 = n ∧ VD (kTm t) ∧ 0 ≤ t.2.2 ∧ t.2.2 ≤ 100 := fun t ht => ⟨hsz t ht, (hto t ht).1, (hto t ht).2.1, (hto t ht).2.2⟩
  have hY : ∀ t ∈ ys, t.1 = n ∧ VD (kTm t) ∧ 0 ≤ t.2.2 ∧ t.2.2 ≤ 100 := fun t ht => ⟨hsz2 t ht, (hto2 t ht).1, (hto2 t ht).2.1, (hto2 t ht).2.2⟩
  have hpr := Lib.hid (fun w h1 h2 => prI_any p c n p c n (some ⟨a, 0, none⟩) (some ⟨a2, 0, none⟩) cap cap2 xs ys hts hx hts2 hy w h1 h2)
  rw [hk] at hpr
  have hpo := Lib.hid (fun w h1 h2 => poeI_any p c n p c n n (some ⟨a, 0, none⟩) (some ⟨a2, 0, none⟩) cap cap2 xs ys hX hY hl hl2 hp2 hp97 hc.1 hc.2 w h1 h2)
  have hG : GoodT p (prN p c n xs ys) := prN_good (by omega) (fun t ht => ⟨(hX t ht).1, (hX t ht).2.1⟩) (fun t ht => ⟨(hY t ht).1, (hY t ht).2.1⟩)
  have hln : (prN p c n xs ys).length ≤ 19600 := Nat.le_trans (prN_len p c n xs ys) (Nat.mul_le_mul hl hl2)
  obtain ⟨R, hRR⟩ : ∃ R, prN p c n xs ys = R := ⟨_, rfl⟩
  rw [hRR] at hpo hG hln hlR
  obtain ⟨l, hll⟩ : ∃ l, xs.length = l := ⟨_, rfl⟩
  obtain ⟨m, hmm⟩ : ∃ m, ys.length = m := ⟨_, rfl⟩
  have heos := Lib.hid (fun b nn W hM => eos_many p c n (some ⟨a, 0, none⟩) l cap b nn p R W hM hG hlR (by omega))
  rw [hll] at hpr hpo ⊢
  rw [hmm] at hpr hpo ⊢
  have hR1 := Lib.hid (fun w' (hb : Below w.heap.size w w') => hR.below hb)
  have hR2 := Lib.hid (fun w' (hb : Below w.heap.size w w') => hRy.below hb)
  clear hts hx hts2 hy hk hx1 hy1 hR hRy hp hc hn hl hG0 hsz hto hl2 hG2 hsz2 hto2 hG hln hlR hRR hll hmm hX hY
  unfold ecl at *
  go_enter Try.func24, Try.ntmps24
  go_upto_region 4 with (first
    | (go_at_call 49; (have wb := ((((Below.refl w.heap.size w).alloc (Nat.le_refl _) (.cells #[.int .i64 p, .int .i64 c, .int .i64 n, .slice (some ⟨a, 0, none⟩) l cap] 28)).alloc (by simp) (.cells #[.int .i64 p, .int .i64 c, .int .i64 n, .slice (some ⟨a2, 0, none⟩) m cap2] 28)).alloc (by simp; omega) (.cells #[.int .i64 0, .int .i64 0, .int .i64 0, .slice none 0 0] 28)); (with_reducible refine (hpr.out _ (hR1.out _ wb) (hR2.out _ wb)).mono ?_); rintro e w1 ⟨rfl, hB1⟩; have oX1 := (((Own.new w #[.int .i64 p, .int .i64 c, .int .i64 n, .slice (some ⟨a, 0, none⟩) l cap] 28).alloc (.cells #[.int .i64 p, .int .i64 c, .int .i64 n, .slice (some ⟨a2, 0, none⟩) m cap2] 28)).alloc (.cells #[.int .i64 0, .int .i64 0, .int .i64 0, .slice none 0 0] 28)).below hB1 (by simp; omega); have oY1 := ((Own.at (w.alloc (.cells #[.int .i64 p, .int .i64 c, .int .i64 n, .slice (some ⟨a, 0, none⟩) l cap] 28)) #[.int .i64 p, .int .i64 c, .int .i64 n, .slice (some ⟨a2, 0, none⟩) m cap2] 28 (by simp : _ = w.heap.size + 1)).alloc (.cells #[.int .i64 0, .int .i64 0, .int .i64 0, .slice none 0 0] 28)).below hB1 (by simp); have oR1 := (Own.at ((w.alloc (.cells #[.int .i64 p, .int .i64 c, .int .i64 n, .slice (some ⟨a, 0, none⟩) l cap] 28)).alloc (.cells #[.int .i64 p, .int .i64 c, .int .i64 n, .slice (some ⟨a2, 0, none⟩) m cap2] 28)) #[.int .i64 0, .int .i64 0, .int .i64 0, .slice none 0 0] 28 (by simp : _ = w.heap.size + 1 + 1)).below hB1 (by simp); have b1 : Below w.heap.size w w1 := wb.trans (hB1.mono (by simp; omega)); clear hB1 wb))
    | (refine wpList_load_row rfl 28 _ rfl _ rfl 28 _ (0, 0) _ (((Own.new w #[.int .i64 p, .int .i64 c, .int .i64 n, .slice (some ⟨a, 0, none⟩) l cap] 28).alloc (.cells #[.int .i64 p, .int .i64 c, .int .i64 n, .slice (some ⟨a2, 0, none⟩) m cap2] 28)).alloc (.cells #[.int .i64 0, .int .i64 0, .int .i64 0, .slice none 0 0] 28)) Try.underlying28 rfl (by kernel_rfl) ?_)
    | (refine wpList_load_row rfl 28 _ rfl _ rfl 28 _ (0, 0) _ ((Own.at (w.alloc (.cells #[.int .i64 p, .int .i64 c, .int .i64 n, .slice (some ⟨a, 0, none⟩) l cap] 28)) #[.int .i64 p, .int .i64 c, .int .i64 n, .slice (some ⟨a2, 0, none⟩) m cap2] 28 (by simp : _ = w.heap.size + 1)).alloc (.cells #[.int .i64 0, .int .i64 0, .int .i64 0, .slice none 0 0] 28)) Try.underlying28 rfl (by kernel_rfl) ?_))
  have wz := trivial
  refine wp_region_st (fun x => Own x w.heap.size #[.int .i64 p, .int .i64 c, .int .i64 n, .slice (some ⟨a, 0, none⟩) l cap] 28 ∧ Own x (w.heap.size + 1) #[.int .i64 p, .int .i64 c, .int .i64 n, .slice (some ⟨a2, 0, none⟩) m cap2] 28) [(true, 0), (true, 1), (true, 2), (false, 3), (false, 4), (true, 5), (true, 6)] 7 (by kernel_rfl) (by kernel_rfl) ⟨oX1.drewN 1, oY1.drewN 1⟩ ?_
  have oXd : Own { w1 with drawn := w1.drawn + 1 } w.heap.size #[.int .i64 p, .int .i64 c, .int .i64 n, .slice (some ⟨a, 0, none⟩) l cap] 28 := oX1
  have oYd : Own { w1 with drawn := w1.drawn + 1 } (w.heap.size + 1) #[.int .i64 p, .int .i64 c, .int .i64 n, .slice (some ⟨a2, 0, none⟩) m cap2] 28 := oY1
  have oRd : Own { w1 with drawn := w1.drawn + 1 } (w.heap.size + 1 + 1) #[.int .i64 0, .int .i64 0, .int .i64 0, .slice none 0 0] 28 := oR1
  have bd : Below w.heap.size w { w1 with drawn := w1.drawn + 1 } := b1.drew
  clear oX1 oY1 oR1 b1
  generalize ({ w1 with drawn := w1.drawn + 1 } : World) = w3 at *
  simp only [List.map_cons, List.map_nil, opS'_mk, opN_zero, opN_succ, List.drop_succ_cons, List.drop_zero]
  (apply wpSt_read; · (intro wd hS K hK; rw [if_pos (by rfl)]; refine still_load_row 28 (.tmp 2) rfl w.heap.size rfl 28 #[.int .i64 p, .int .i64 c, .int .i64 n, .slice (some ⟨a, 0, none⟩) l cap] _ hS.1 Try.underlying28 rfl (by kernel_rfl) ?_; exact hK))
  (apply wpSt_read; · (intro wd hS K hK; rw [if_pos (by rfl)]; refine still_load_row 28 (.tmp 2) rfl w.heap.size rfl 28 #[.int .i64 p, .int .i64 c, .int .i64 n, .slice (some ⟨a, 0, none⟩) l cap] _ hS.1 Try.underlying28 rfl (by kernel_rfl) ?_; exact hK))
  (apply wpSt_read; · (intro wd hS K hK; rw [if_pos (by rfl)]; refine still_load_row 28 (.tmp 3) rfl (w.heap.size + 1) rfl 28 #[.int .i64 p, .int .i64 c, .int .i64 n, .slice (some ⟨a2, 0, none⟩) m cap2] _ hS.2 Try.underlying28 rfl (by kernel_rfl) ?_; exact hK))
  refine wpSt_keep (fun K hK => ?_)
  go_wp2_with (first
    | (go_at_call 61; ((with_reducible refine (hpo.out w3 (hR1.out _ bd) (hR2.out _ bd)).mono ?_); rintro e w4 ⟨⟨b, nn, rfl, hnn, hbb, hM4⟩, hB4⟩)))
  have oX4 := oXd.below hB4 oXd.lt
  have oY4 := oYd.below hB4 oYd.lt
  have oR4 := oRd.below hB4 oRd.lt
  have b4 := bd.trans (hB4.mono bd.size)
  refine hK _ _ ⟨oX4, oY4⟩ rfl ?_
  clear hK K oXd oYd oRd hB4
  refine wpSt_keep (fun K hK => ?_)
  go_wp2_with (first
    | (go_at_call 51; ((with_reducible refine (heos.out b nn w4 hM4).mono ?_); rintro e w5 ⟨rfl, hB5⟩)))
  have oR5 := oR4.below hB5 oR4.lt
  have b5 := b4.trans (hB5.mono b4.size)
  refine hK _ _ ⟨oX4.below hB5 oX4.lt, oY4.below hB5 oY4.lt⟩ rfl ?_
  clear hK K
  (apply wpSt_read; · (intro wd hS K hK; clear hS; go_simp; exact hK))
  (apply wpSt_read; · (intro wd hS K hK; clear hS; go_simp; exact hK))
  refine wpSt_nil ?_
  go_wp2_with (first
    | (refine wpList_store_own rfl 28 _ _ rfl _ _ rfl rfl 28 _ oR5 (by kernel_rfl) rfl (by simp [Value.oneCell']) ?_; intro w6 oR6 hN6))
  refine bodyPost_ret (v := .tuple #[.agg #[.int .i64 0, .int .i64 0, .int .i64 0, .slice none 0 0], .int .i64 3]) (results_row_tmp rfl _ _ _ _ _ (0, 0) _ rfl oR6 Try.underlying28 rfl (by kernel_rfl) _ rfl) rfl ⟨rfl, b5.trans (hN6.below.mono (by omega))⟩
set_option maxRecDepth 100000 in
set_option maxHeartbeats 4000000 in
theorem mueS_ok (p c n : Int) (a cap a2 cap2 : Nat) (xs ys : List Tm) (hts : ∀ t ∈ xs, t.2.1.length = 16 ∧ Bytes t.2.1) (hx : xs.length ≤ 1048576) (hts2 : ∀ t ∈ ys, t.2.1.length = 16 ∧ Bytes t.2.1) (hy : ys.length ≤ 1048576) (hk : prC p c n xs p c n ys = 0) (hx1 : elB p c n xs = true) (hy1 : elB p c n ys = true) (hlR : (prN p c n xs ys).length ≤ 140) (w : World) (hR : RdT w (some ⟨a, 0, none⟩) xs) (hRy : RdT w (some ⟨a2, 0, none⟩) ys) :
    Calls Try.prog 23 #[.agg (ecl p c n (.slice (some ⟨a, 0, none⟩) xs.length cap)), .agg (ecl p c n (.slice (some ⟨a2, 0, none⟩) ys.length cap2))] w fun e w' => (∃ q cap, e = .returned (.tuple #[.agg (ecl p c n (.slice q (prN p c n xs ys).length cap)), .int .i64 0]) ∧ Res w' w.heap.size q (prN p c n xs ys)) ∧ Below w.heap.size w w' := by
  obtain ⟨hp, hc, hn, hl, hG0, hsz, hp2, hp97, hto⟩ := elB_good hx1 hts
  obtain ⟨_, _, _, hl2, hG2, hsz2, _, _, hto2⟩ := elB_good hy1 hts2
  have hX : ∀ t ∈ xs, t.1 = n ∧ VD (kTm t) ∧ 0 ≤ t.2.2 ∧ t.2.2 ≤ 100 := fun t ht => ⟨hsz t ht, (hto t ht).1, (hto t ht).2.1, (hto t ht).2.2⟩
  have hY : ∀ t ∈ ys, t.1 = n ∧ VD (kTm t) ∧ 0 ≤ t.2.2 ∧ t.2.2 ≤ 100 := fun t ht => ⟨hsz2 t ht, (hto2 t ht).1, (hto2 t ht).2.1, (hto2 t ht).2.2⟩
  have hpr := Lib.hid (fun w h1 h2 => prS_any p c n p c n (some ⟨a, 0, none⟩) (some ⟨a2, 0, none⟩) cap cap2 xs ys hts hx hts2 hy (by omega) (by omega) w h1 h2)
  rw [hk] at hpr
  have hsu := Lib.hid (fun w h1 h2 => timS_any p c n p c n n a a2 cap cap2 xs ys hX hY hl hl2 hp2 hp97 hc.1 hc.2 w h1 h2)
  obtain ⟨R, hRR⟩ : ∃ R, prN p c n xs ys = R := ⟨_, rfl⟩
  rw [hRR] at hsu hlR ⊢
  obtain ⟨l, hll⟩ : ∃ l, xs.length = l := ⟨_, rfl⟩
  obtain ⟨m, hmm⟩ : ∃ m, ys.length = m := ⟨_, rfl⟩
  obtain ⟨r, hrr⟩ : ∃ r, R.length = r := ⟨_, rfl⟩
  rw [hll] at hpr hsu ⊢
  rw [hmm] at hpr hsu ⊢
  rw [hrr] at hsu hlR ⊢
  have htd := Lib.hid (fun g cp w => toldS_ok p c n (some ⟨g, 0, none⟩) r cp hlR w)
  have hR1 := Lib.hid (fun w' (hb : Below w.heap.size w w') => hR.below hb)
  have hR2 := Lib.hid (fun w' (hb : Below w.heap.size w w') => hRy.below hb)
  clear hts hx hts2 hy hk hx1 hy1 hR hRy hp hc hn hl hG0 hsz hto hl2 hG2 hsz2 hto2 hlR hRR hll hmm hrr hX hY
  unfold ecl at *
  go_enter Try.func23, Try.ntmps23
  go_wp2_with (first
    | (go_at_call 45; (have wb := ((((Below.refl w.heap.size w).alloc (Nat.le_refl _) (.cells #[.int .i64 p, .int .i64 c, .int .i64 n, .slice (some ⟨a, 0, none⟩) l cap] 28)).alloc (by simp) (.cells #[.int .i64 p, .int .i64 c, .int .i64 n, .slice (some ⟨a2, 0, none⟩) m cap2] 28)).alloc (by simp; omega) (.cells #[.int .i64 0, .int .i64 0, .int .i64 0, .slice none 0 0] 28)); (with_reducible refine (hpr.out _ (hR1.out _ wb) (hR2.out _ wb)).mono ?_); rintro e w1 ⟨rfl, hB1⟩; have oX1 := (((Own.new w #[.int .i64 p, .int .i64 c, .int .i64 n, .slice (some ⟨a, 0, none⟩) l cap] 28).alloc (.cells #[.int .i64 p, .int .i64 c, .int .i64 n, .slice (some ⟨a2, 0, none⟩) m cap2] 28)).alloc (.cells #[.int .i64 0, .int .i64 0, .int .i64 0, .slice none 0 0] 28)).below hB1 (by simp; omega); have oY1 := ((Own.at (w.alloc (.cells #[.int .i64 p, .int .i64 c, .int .i64 n, .slice (some ⟨a, 0, none⟩) l cap] 28)) #[.int .i64 p, .int .i64 c, .int .i64 n, .slice (some ⟨a2, 0, none⟩) m cap2] 28 (by simp : _ = w.heap.size + 1)).alloc (.cells #[.int .i64 0, .int .i64 0, .int .i64 0, .slice none 0 0] 28)).below hB1 (by simp); have oR1 := (Own.at ((w.alloc (.cells #[.int .i64 p, .int .i64 c, .int .i64 n, .slice (some ⟨a, 0, none⟩) l cap] 28)).alloc (.cells #[.int .i64 p, .int .i64 c, .int .i64 n, .slice (some ⟨a2, 0, none⟩) m cap2] 28)) #[.int .i64 0, .int .i64 0, .int .i64 0, .slice none 0 0] 28 (by simp : _ = w.heap.size + 1 + 1)).below hB1 (by simp); have b1 : Below w.heap.size w w1 := wb.trans (hB1.mono (by simp; omega)); clear hB1 wb))
    | (refine wpList_load_row rfl 28 _ rfl _ rfl 28 _ (0, 0) _ (((Own.new w #[.int .i64 p, .int .i64 c, .int .i64 n, .slice (some ⟨a, 0, none⟩) l cap] 28).alloc (.cells #[.int .i64 p, .int .i64 c, .int .i64 n, .slice (some ⟨a2, 0, none⟩) m cap2] 28)).alloc (.cells #[.int .i64 0, .int .i64 0, .int .i64 0, .slice none 0 0] 28)) Try.underlying28 rfl (by kernel_rfl) ?_)
    | (refine wpList_load_row rfl 28 _ rfl _ rfl 28 _ (0, 0) _ ((Own.at (w.alloc (.cells #[.int .i64 p, .int .i64 c, .int .i64 n, .slice (some ⟨a, 0, none⟩) l cap] 28)) #[.int .i64 p, .int .i64 c, .int .i64 n, .slice (some ⟨a2, 0, none⟩) m cap2] 28 (by simp : _ = w.heap.size + 1)).alloc (.cells #[.int .i64 0, .int .i64 0, .int .i64 0, .slice none 0 0] 28)) Try.underlying28 rfl (by kernel_rfl) ?_)
    | (refine wpList_load_row rfl 28 _ rfl _ rfl 28 _ (0, 0) _ oX1 Try.underlying28 rfl (by kernel_rfl) ?_)
    | (refine wpList_load_row rfl 28 _ rfl _ rfl 28 _ (0, 0) _ oY1 Try.underlying28 rfl (by kernel_rfl) ?_)
    | (go_at_call 60; ((with_reducible refine (hsu.out w1 (hR1.out _ b1) (hR2.out _ b1)).mono ?_); rintro e w4 ⟨⟨g4, cap4, rfl, hc4, hM4⟩, hB4⟩; have oR4 := oR1.below hB4 oR1.lt; have b4 := b1.trans (hB4.mono b1.size)))
    | (go_at_call 46; ((with_reducible refine (htd.out g4 cap4 w4).mono ?_); rintro e w5 ⟨rfl, hB5⟩; have oR5 := oR4.below hB5 oR4.lt; have b5 := b4.trans (hB5.mono b4.size); have hM5 := hM4.below hB5 hM4.lt))
    | (refine wpList_store_own rfl 28 _ _ rfl _ _ rfl rfl 28 _ (Own.new w5 _ _) (by kernel_rfl) rfl (by simp [Value.oneCell']) ?_; intro w6 oB6 hN6; have oR6 := (oR5.alloc _).only hN6 (by have := oR5.lt; omega); have hM6 := (hM5.alloc _).onl hN6 (by have := hM5.lt; omega); have b6 := (b5.alloc b5.size _).trans (hN6.below.mono b5.size))
    | (refine wpList_load_row rfl 28 _ rfl _ rfl 28 _ (0, 0) _ oB6 Try.underlying28 rfl (by kernel_rfl) ?_)
    | (refine wpList_store_own rfl 28 _ _ rfl _ _ rfl rfl 28 _ oR6 (by kernel_rfl) rfl (by simp [Value.oneCell']) ?_; intro w7 oR7 hN7))
  have hr7 : Res w7 w.heap.size (some ⟨g4, 0, none⟩) R := (Res.own ((hM6.weak b1.size).onl hN7 (by have := hM4.1; have := oR1.lt; omega)))
  refine bodyPost_ret (v := .tuple #[.agg #[.int .i64 p, .int .i64 c, .int .i64 n, .slice (some ⟨g4, 0, none⟩) r cap4], .int .i64 0]) (results_row_tmp rfl _ _ _ _ _ (0, 0) _ rfl oR7 Try.underlying28 rfl (by kernel_rfl) _ rfl) rfl ⟨⟨_, cap4, rfl, hr7⟩, b6.trans (hN7.below.mono (by omega))⟩
set_option maxRecDepth 100000 in
set_option maxHeartbeats 4000000 in
theorem mueS_many (p c n : Int) (a cap a2 cap2 : Nat) (xs ys : List Tm) (hts : ∀ t ∈ xs, t.2.1.length = 16 ∧ Bytes t.2.1) (hx : xs.length ≤ 1048576) (hts2 : ∀ t ∈ ys, t.2.1.length = 16 ∧ Bytes t.2.1) (hy : ys.length ≤ 1048576) (hk : prC p c n xs p c n ys = 0) (hx1 : elB p c n xs = true) (hy1 : elB p c n ys = true) (hlR : 140 < (prN p c n xs ys).length) (w : World) (hR : RdT w (some ⟨a, 0, none⟩) xs) (hRy : RdT w (some ⟨a2, 0, none⟩) ys) :
    Calls Try.prog 23 #[.agg (ecl p c n (.slice (some ⟨a, 0, none⟩) xs.length cap)), .agg (ecl p c n (.slice (some ⟨a2, 0, none⟩) ys.length cap2))] w fun e w' => e = .returned (.tuple #[.agg (ecl 0 0 0 (.slice none 0 0)), .int .i64 3]) ∧ Below w.heap.size w w' := by
  obtain ⟨hp, hc, hn, hl, hG0, hsz, hp2, hp97, hto⟩ := elB_good hx1 hts
  obtain ⟨_, _, _, hl2, hG2, hsz2, _, _, hto2⟩ := elB_good hy1 hts2
  have hX : ∀ t ∈ xs, t.1 = n ∧ VD (kTm t) ∧ 0 ≤ t.2.2 ∧ t.2.2 ≤ 100 := fun t ht => ⟨hsz t ht, (hto t ht).1, (hto t ht).2.1, (hto t ht).2.2⟩
  have hY : ∀ t ∈ ys, t.1 = n ∧ VD (kTm t) ∧ 0 ≤ t.2.2 ∧ t.2.2 ≤ 100 := fun t ht => ⟨hsz2 t ht, (hto2 t ht).1, (hto2 t ht).2.1, (hto2 t ht).2.2⟩
  have hpr := Lib.hid (fun w h1 h2 => prS_any p c n p c n (some ⟨a, 0, none⟩) (some ⟨a2, 0, none⟩) cap cap2 xs ys hts hx hts2 hy (by omega) (by omega) w h1 h2)
  rw [hk] at hpr
  have hsu := Lib.hid (fun w h1 h2 => timS_any p c n p c n n a a2 cap cap2 xs ys hX hY hl hl2 hp2 hp97 hc.1 hc.2 w h1 h2)
  obtain ⟨R, hRR⟩ : ∃ R, prN p c n xs ys = R := ⟨_, rfl⟩
  rw [hRR] at hsu hlR
  obtain ⟨l, hll⟩ : ∃ l, xs.length = l := ⟨_, rfl⟩
  obtain ⟨m, hmm⟩ : ∃ m, ys.length = m := ⟨_, rfl⟩
  obtain ⟨r, hrr⟩ : ∃ r, R.length = r := ⟨_, rfl⟩
  rw [hll] at hpr hsu ⊢
  rw [hmm] at hpr hsu ⊢
  rw [hrr] at hsu hlR
  have htd := Lib.hid (fun g cp w => toldS_big p c n (some ⟨g, 0, none⟩) r cp hlR w)
  have hR1 := Lib.hid (fun w' (hb : Below w.heap.size w w') => hR.below hb)
  have hR2 := Lib.hid (fun w' (hb : Below w.heap.size w w') => hRy.below hb)
  clear hts hx hts2 hy hk hx1 hy1 hR hRy hp hc hn hl hG0 hsz hto hl2 hG2 hsz2 hto2 hlR hRR hll hmm hrr hX hY
  unfold ecl at *
  go_enter Try.func23, Try.ntmps23
  go_wp2_with (first
    | (go_at_call 45; (have wb := ((((Below.refl w.heap.size w).alloc (Nat.le_refl _) (.cells #[.int .i64 p, .int .i64 c, .int .i64 n, .slice (some ⟨a, 0, none⟩) l cap] 28)).alloc (by simp) (.cells #[.int .i64 p, .int .i64 c, .int .i64 n, .slice (some ⟨a2, 0, none⟩) m cap2] 28)).alloc (by simp; omega) (.cells #[.int .i64 0, .int .i64 0, .int .i64 0, .slice none 0 0] 28)); (with_reducible refine (hpr.out _ (hR1.out _ wb) (hR2.out _ wb)).mono ?_); rintro e w1 ⟨rfl, hB1⟩; have oX1 := (((Own.new w #[.int .i64 p, .int .i64 c, .int .i64 n, .slice (some ⟨a, 0, none⟩) l cap] 28).alloc (.cells #[.int .i64 p, .int .i64 c, .int .i64 n, .slice (some ⟨a2, 0, none⟩) m cap2] 28)).alloc (.cells #[.int .i64 0, .int .i64 0, .int .i64 0, .slice none 0 0] 28)).below hB1 (by simp; omega); have oY1 := ((Own.at (w.alloc (.cells #[.int .i64 p, .int .i64 c, .int .i64 n, .slice (some ⟨a, 0, none⟩) l cap] 28)) #[.int .i64 p, .int .i64 c, .int .i64 n, .slice (some ⟨a2, 0, none⟩) m cap2] 28 (by simp : _ = w.heap.size + 1)).alloc (.cells #[.int .i64 0, .int .i64 0, .int .i64 0, .slice none 0 0] 28)).below hB1 (by simp); have oR1 := (Own.at ((w.alloc (.cells #[.int .i64 p, .int .i64 c, .int .i64 n, .slice (some ⟨a, 0, none⟩) l cap] 28)).alloc (.cells #[.int .i64 p, .int .i64 c, .int .i64 n, .slice (some ⟨a2, 0, none⟩) m cap2] 28)) #[.int .i64 0, .int .i64 0, .int .i64 0, .slice none 0 0] 28 (by simp : _ = w.heap.size + 1 + 1)).below hB1 (by simp); have b1 : Below w.heap.size w w1 := wb.trans (hB1.mono (by simp; omega)); clear hB1 wb))
    | (refine wpList_load_row rfl 28 _ rfl _ rfl 28 _ (0, 0) _ (((Own.new w #[.int .i64 p, .int .i64 c, .int .i64 n, .slice (some ⟨a, 0, none⟩) l cap] 28).alloc (.cells #[.int .i64 p, .int .i64 c, .int .i64 n, .slice (some ⟨a2, 0, none⟩) m cap2] 28)).alloc (.cells #[.int .i64 0, .int .i64 0, .int .i64 0, .slice none 0 0] 28)) Try.underlying28 rfl (by kernel_rfl) ?_)
    | (refine wpList_load_row rfl 28 _ rfl _ rfl 28 _ (0, 0) _ ((Own.at (w.alloc (.cells #[.int .i64 p, .int .i64 c, .int .i64 n, .slice (some ⟨a, 0, none⟩) l cap] 28)) #[.int .i64 p, .int .i64 c, .int .i64 n, .slice (some ⟨a2, 0, none⟩) m cap2] 28 (by simp : _ = w.heap.size + 1)).alloc (.cells #[.int .i64 0, .int .i64 0, .int .i64 0, .slice none 0 0] 28)) Try.underlying28 rfl (by kernel_rfl) ?_)
    | (refine wpList_load_row rfl 28 _ rfl _ rfl 28 _ (0, 0) _ oX1 Try.underlying28 rfl (by kernel_rfl) ?_)
    | (refine wpList_load_row rfl 28 _ rfl _ rfl 28 _ (0, 0) _ oY1 Try.underlying28 rfl (by kernel_rfl) ?_)
    | (go_at_call 60; ((with_reducible refine (hsu.out w1 (hR1.out _ b1) (hR2.out _ b1)).mono ?_); rintro e w4 ⟨⟨g4, cap4, rfl, hc4, hM4⟩, hB4⟩; have oR4 := oR1.below hB4 oR1.lt; have b4 := b1.trans (hB4.mono b1.size)))
    | (go_at_call 46; ((with_reducible refine (htd.out g4 cap4 w4).mono ?_); rintro e w5 ⟨rfl, hB5⟩; have oR5 := oR4.below hB5 oR4.lt; have b5 := b4.trans (hB5.mono b4.size); have hM5 := hM4.below hB5 hM4.lt))
    | (refine wpList_store_own rfl 28 _ _ rfl _ _ rfl rfl 28 _ (Own.new w5 _ _) (by kernel_rfl) rfl (by simp [Value.oneCell']) ?_; intro w6 oB6 hN6; have oR6 := (oR5.alloc _).only hN6 (by have := oR5.lt; omega); have hM6 := (hM5.alloc _).onl hN6 (by have := hM5.lt; omega); have b6 := (b5.alloc b5.size _).trans (hN6.below.mono b5.size))
    | (refine wpList_load_row rfl 28 _ rfl _ rfl 28 _ (0, 0) _ oB6 Try.underlying28 rfl (by kernel_rfl) ?_)
    | (refine wpList_store_own rfl 28 _ _ rfl _ _ rfl rfl 28 _ oR6 (by kernel_rfl) rfl (by simp [Value.oneCell']) ?_; intro w7 oR7 hN7))
  refine bodyPost_ret (v := .tuple #[.agg #[.int .i64 0, .int .i64 0, .int .i64 0, .slice none 0 0], .int .i64 3]) (results_row_tmp rfl _ _ _ _ _ (0, 0) _ rfl oR7 Try.underlying28 rfl (by kernel_rfl) _ rfl) rfl ⟨rfl, b6.trans (hN7.below.mono (by omega))⟩
end Go.Proofs.Ytpmcngmphkegnaa
