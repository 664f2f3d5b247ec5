/- CommutatorElement: the program. (Written by genkoi.py.) -/
import Derived.Test.YtpmcngmphkegnaaKoa
namespace Go.Proofs.Ytpmcngmphkegnaa
open Go.RowKit Go.Lib
open Go.Maps (Keyed)
set_option linter.unusedVariables false
set_option linter.unusedSimpArgs false
set_option maxRecDepth 100000 in
set_option maxHeartbeats 4000000 in
theorem comI_bad (p c n p2 c2 n2 : Int) (a cap a2 cap2 : Nat) (xs ys : List Tm) (hts : ∀ t ∈ xs, t.2.1.length = 16 ∧ Bytes t.2.1) (hx : xs.length ≤ 1048576) (hts2 : ∀ t ∈ ys, t.2.1.length = 16 ∧ Bytes t.2.1) (hy : ys.length ≤ 1048576) (k : Int) (hk : prC p c n xs p2 c2 n2 ys = k) (h0 : k ≠ 0) (w : World) (hR : RdT w (some ⟨a, 0, none⟩) xs) (hRy : RdT w (some ⟨a2, 0, none⟩) ys) :
    Calls Try.prog 30 #[.agg (ecl p c n (.slice (some ⟨a, 0, none⟩) xs.length cap)), .agg (ecl p2 c2 n2 (.slice (some ⟨a2, 0, none⟩) ys.length cap2))] w fun e w' => e = .returned (.tuple #[.agg (ecl 0 0 0 (.slice none 0 0)), .int .i64 k]) ∧ Below w.heap.size w w' := by
  have hpr := Lib.hid (fun w h1 h2 => prI_any p c n p2 c2 n2 (some ⟨a, 0, none⟩) (some ⟨a2, 0, none⟩) cap cap2 xs ys hts hx hts2 hy w h1 h2)
  rw [hk] at hpr
  have hk0 : (k != 0) = true := by simpa using h0
  have hR1 := Lib.hid (fun w' (hb : Below w.heap.size w w') => hR.below hb)
  have hR2 := Lib.hid (fun w' (hb : Below w.heap.size w w') => hRy.below hb)
  obtain ⟨l, hll⟩ : ∃ l, xs.length = l := ⟨_, rfl⟩
  obtain ⟨m, hmm⟩ : ∃ m, ys.length = m := ⟨_, rfl⟩
  rw [hll, hmm] at hpr ⊢
  have b00 := built00
  clear hts hx hts2 hy hk h0 hR hRy hll hmm
  unfold ecl at *
  go_enter Try.func30, Try.ntmps30
  go_wp2_with (first
    | (go_at_call 49; (have wb := ((((Below.refl w.heap.size w).alloc (Nat.le_refl _) (.cells #[.int .i64 p, .int .i64 c, .int .i64 n, .slice (some ⟨a, 0, none⟩) l cap] 28)).alloc (by simp) (.cells #[.int .i64 p2, .int .i64 c2, .int .i64 n2, .slice (some ⟨a2, 0, none⟩) m cap2] 28)).alloc (by simp; omega) (.cells #[.int .i64 0, .int .i64 0, .int .i64 0, .slice none 0 0] 28)); (with_reducible refine (hpr.out _ (hR1.out _ wb) (hR2.out _ wb)).mono ?_); rintro e w1 ⟨rfl, hB1⟩; have oX1 := (((Own.new w #[.int .i64 p, .int .i64 c, .int .i64 n, .slice (some ⟨a, 0, none⟩) l cap] 28).alloc (.cells #[.int .i64 p2, .int .i64 c2, .int .i64 n2, .slice (some ⟨a2, 0, none⟩) m cap2] 28)).alloc (.cells #[.int .i64 0, .int .i64 0, .int .i64 0, .slice none 0 0] 28)).below hB1 (by simp; omega); have oY1 := ((Own.at (w.alloc (.cells #[.int .i64 p, .int .i64 c, .int .i64 n, .slice (some ⟨a, 0, none⟩) l cap] 28)) #[.int .i64 p2, .int .i64 c2, .int .i64 n2, .slice (some ⟨a2, 0, none⟩) m cap2] 28 (by simp : _ = w.heap.size + 1)).alloc (.cells #[.int .i64 0, .int .i64 0, .int .i64 0, .slice none 0 0] 28)).below hB1 (by simp); have oR1 := (Own.at ((w.alloc (.cells #[.int .i64 p, .int .i64 c, .int .i64 n, .slice (some ⟨a, 0, none⟩) l cap] 28)).alloc (.cells #[.int .i64 p2, .int .i64 c2, .int .i64 n2, .slice (some ⟨a2, 0, none⟩) m cap2] 28)) #[.int .i64 0, .int .i64 0, .int .i64 0, .slice none 0 0] 28 (by simp : _ = w.heap.size + 1 + 1)).below hB1 (by simp); have b1 : Below w.heap.size w w1 := wb.trans (hB1.mono (by simp; omega)); clear hB1 wb))
    | (refine wpList_load_row rfl 28 _ rfl _ rfl 28 _ (0, 0) _ (((Own.new w #[.int .i64 p, .int .i64 c, .int .i64 n, .slice (some ⟨a, 0, none⟩) l cap] 28).alloc (.cells #[.int .i64 p2, .int .i64 c2, .int .i64 n2, .slice (some ⟨a2, 0, none⟩) m cap2] 28)).alloc (.cells #[.int .i64 0, .int .i64 0, .int .i64 0, .slice none 0 0] 28)) Try.underlying28 rfl (by kernel_rfl) ?_)
    | (refine wpList_load_row rfl 28 _ rfl _ rfl 28 _ (0, 0) _ ((Own.at (w.alloc (.cells #[.int .i64 p, .int .i64 c, .int .i64 n, .slice (some ⟨a, 0, none⟩) l cap] 28)) #[.int .i64 p2, .int .i64 c2, .int .i64 n2, .slice (some ⟨a2, 0, none⟩) m cap2] 28 (by simp : _ = w.heap.size + 1)).alloc (.cells #[.int .i64 0, .int .i64 0, .int .i64 0, .slice none 0 0] 28)) Try.underlying28 rfl (by kernel_rfl) ?_)
    | (refine wpList_store_own rfl 28 _ _ rfl _ _ rfl rfl 28 _ oR1 (by kernel_rfl) rfl (by simp [Value.oneCell']) ?_; intro w5 oR5 hN5))
  refine bodyPost_ret (v := .tuple #[.agg #[.int .i64 0, .int .i64 0, .int .i64 0, .slice none 0 0], .int .i64 k]) (results_row_tmp rfl _ _ _ _ _ (0, 0) _ rfl oR5 Try.underlying28 rfl (by kernel_rfl) _ rfl) rfl ⟨rfl, b1.trans (hN5.below.mono (by omega))⟩
set_option maxRecDepth 100000 in
set_option maxHeartbeats 4000000 in
theorem comS_bad (p c n p2 c2 n2 : Int) (a cap a2 cap2 : Nat) (xs ys : List Tm) (hts : ∀ t ∈ xs, t.2.1.length = 16 ∧ Bytes t.2.1) (hx : xs.length ≤ 1048576) (hts2 : ∀ t ∈ ys, t.2.1.length = 16 ∧ Bytes t.2.1) (hy : ys.length ≤ 1048576) (hpw : -9223372036854775808 ≤ p ∧ p ≤ 9223372036854775807) (hpw2 : -9223372036854775808 ≤ p2 ∧ p2 ≤ 9223372036854775807) (k : Int) (hk : prC p c n xs p2 c2 n2 ys = k) (h0 : k ≠ 0) (w : World) (hR : RdT w (some ⟨a, 0, none⟩) xs) (hRy : RdT w (some ⟨a2, 0, none⟩) ys) :
    Calls Try.prog 29 #[.agg (ecl p c n (.slice (some ⟨a, 0, none⟩) xs.length cap)), .agg (ecl p2 c2 n2 (.slice (some ⟨a2, 0, none⟩) ys.length cap2))] w fun e w' => e = .returned (.tuple #[.agg (ecl 0 0 0 (.slice none 0 0)), .int .i64 k]) ∧ Below w.heap.size w w' := by
  have hpr := Lib.hid (fun w h1 h2 => prS_any p c n p2 c2 n2 (some ⟨a, 0, none⟩) (some ⟨a2, 0, none⟩) cap cap2 xs ys hts hx hts2 hy hpw hpw2 w h1 h2)
  rw [hk] at hpr
  have hk0 : (k != 0) = true := by simpa using h0
  have hR1 := Lib.hid (fun w' (hb : Below w.heap.size w w') => hR.below hb)
  have hR2 := Lib.hid (fun w' (hb : Below w.heap.size w w') => hRy.below hb)
  obtain ⟨l, hll⟩ : ∃ l, xs.length = l := ⟨_, rfl⟩
  obtain ⟨m, hmm⟩ : ∃ m, ys.length = m := ⟨_, rfl⟩
  rw [hll, hmm] at hpr ⊢
  have b00 := built00
  clear hts hx hts2 hy hk h0 hR hRy hll hmm hpw hpw2
  unfold ecl at *
  go_enter Try.func29, Try.ntmps29
  go_wp2_with (first
    | (go_at_call 45; (have wb := ((((Below.refl w.heap.size w).alloc (Nat.le_refl _) (.cells #[.int .i64 p, .int .i64 c, .int .i64 n, .slice (some ⟨a, 0, none⟩) l cap] 28)).alloc (by simp) (.cells #[.int .i64 p2, .int .i64 c2, .int .i64 n2, .slice (some ⟨a2, 0, none⟩) m cap2] 28)).alloc (by simp; omega) (.cells #[.int .i64 0, .int .i64 0, .int .i64 0, .slice none 0 0] 28)); (with_reducible refine (hpr.out _ (hR1.out _ wb) (hR2.out _ wb)).mono ?_); rintro e w1 ⟨rfl, hB1⟩; have oX1 := (((Own.new w #[.int .i64 p, .int .i64 c, .int .i64 n, .slice (some ⟨a, 0, none⟩) l cap] 28).alloc (.cells #[.int .i64 p2, .int .i64 c2, .int .i64 n2, .slice (some ⟨a2, 0, none⟩) m cap2] 28)).alloc (.cells #[.int .i64 0, .int .i64 0, .int .i64 0, .slice none 0 0] 28)).below hB1 (by simp; omega); have oY1 := ((Own.at (w.alloc (.cells #[.int .i64 p, .int .i64 c, .int .i64 n, .slice (some ⟨a, 0, none⟩) l cap] 28)) #[.int .i64 p2, .int .i64 c2, .int .i64 n2, .slice (some ⟨a2, 0, none⟩) m cap2] 28 (by simp : _ = w.heap.size + 1)).alloc (.cells #[.int .i64 0, .int .i64 0, .int .i64 0, .slice none 0 0] 28)).below hB1 (by simp); have oR1 := (Own.at ((w.alloc (.cells #[.int .i64 p, .int .i64 c, .int .i64 n, .slice (some ⟨a, 0, none⟩) l cap] 28)).alloc (.cells #[.int .i64 p2, .int .i64 c2, .int .i64 n2, .slice (some ⟨a2, 0, none⟩) m cap2] 28)) #[.int .i64 0, .int .i64 0, .int .i64 0, .slice none 0 0] 28 (by simp : _ = w.heap.size + 1 + 1)).below hB1 (by simp); have b1 : Below w.heap.size w w1 := wb.trans (hB1.mono (by simp; omega)); clear hB1 wb))
    | (refine wpList_load_row rfl 28 _ rfl _ rfl 28 _ (0, 0) _ (((Own.new w #[.int .i64 p, .int .i64 c, .int .i64 n, .slice (some ⟨a, 0, none⟩) l cap] 28).alloc (.cells #[.int .i64 p2, .int .i64 c2, .int .i64 n2, .slice (some ⟨a2, 0, none⟩) m cap2] 28)).alloc (.cells #[.int .i64 0, .int .i64 0, .int .i64 0, .slice none 0 0] 28)) Try.underlying28 rfl (by kernel_rfl) ?_)
    | (refine wpList_load_row rfl 28 _ rfl _ rfl 28 _ (0, 0) _ ((Own.at (w.alloc (.cells #[.int .i64 p, .int .i64 c, .int .i64 n, .slice (some ⟨a, 0, none⟩) l cap] 28)) #[.int .i64 p2, .int .i64 c2, .int .i64 n2, .slice (some ⟨a2, 0, none⟩) m cap2] 28 (by simp : _ = w.heap.size + 1)).alloc (.cells #[.int .i64 0, .int .i64 0, .int .i64 0, .slice none 0 0] 28)) Try.underlying28 rfl (by kernel_rfl) ?_)
    | (refine wpList_store_own rfl 28 _ _ rfl _ _ rfl rfl 28 _ oR1 (by kernel_rfl) rfl (by simp [Value.oneCell']) ?_; intro w5 oR5 hN5))
  refine bodyPost_ret (v := .tuple #[.agg #[.int .i64 0, .int .i64 0, .int .i64 0, .slice none 0 0], .int .i64 k]) (results_row_tmp rfl _ _ _ _ _ (0, 0) _ rfl oR5 Try.underlying28 rfl (by kernel_rfl) _ rfl) rfl ⟨rfl, b1.trans (hN5.below.mono (by omega))⟩
set_option maxRecDepth 100000 in
set_option maxHeartbeats 16000000 in
theorem comI_lim (p c n : Int) (a cap a2 cap2 : Nat) (xs ys : List Tm) (hts : ∀ t ∈ xs, t.2.1.length = 16 ∧ Bytes t.2.1) (hx : xs.length ≤ 1048576) (hts2 : ∀ t ∈ ys, t.2.1.length = 16 ∧ Bytes t.2.1) (hy : ys.length ≤ 1048576) (hk : prC p c n xs p c n ys = 0) (hx1 : elB p c n xs = true) (hy1 : elB p c n ys = true) (hlim : 140 < (prN p c n xs ys).length ∨ 140 < (prN p c n ys xs).length) (w : World) (hR : RdT w (some ⟨a, 0, none⟩) xs) (hRy : RdT w (some ⟨a2, 0, none⟩) ys) :
    Calls Try.prog 30 #[.agg (ecl p c n (.slice (some ⟨a, 0, none⟩) xs.length cap)), .agg (ecl p c n (.slice (some ⟨a2, 0, none⟩) ys.length cap2))] w fun e w' => e = .returned (.tuple #[.agg (ecl 0 0 0 (.slice none 0 0)), .int .i64 3]) ∧ Below w.heap.size w w' := by
  obtain ⟨hp, hc, hn, hl, hG0, hsz, hp2, hp97, hto⟩ := elB_good hx1 hts
  obtain ⟨_, _, _, hl2, hG2, hsz2, _, _, hto2⟩ := elB_good hy1 hts2
  have hX : ∀ t ∈ xs, t.1 = n ∧ VD (kTm t) ∧ 0 ≤ t.2.2 ∧ t.2.2 ≤ 100 := fun t ht => ⟨hsz t ht, (hto t ht).1, (hto t ht).2.1, (hto t ht).2.2⟩
  have hY : ∀ t ∈ ys, t.1 = n ∧ VD (kTm t) ∧ 0 ≤ t.2.2 ∧ t.2.2 ≤ 100 := fun t ht => ⟨hsz2 t ht, (hto2 t ht).1, (hto2 t ht).2.1, (hto2 t ht).2.2⟩
  have hpr := Lib.hid (fun w h1 h2 => prI_any p c n p c n (some ⟨a, 0, none⟩) (some ⟨a2, 0, none⟩) cap cap2 xs ys hts hx hts2 hy w h1 h2)
  rw [hk] at hpr
  have hpo := Lib.hid (fun w h1 h2 => poeI_any p c n p c n n (some ⟨a, 0, none⟩) (some ⟨a2, 0, none⟩) cap cap2 xs ys hX hY hl hl2 hp2 hp97 hc.1 hc.2 w h1 h2)
  have hpq := Lib.hid (fun w h1 h2 => poeI_any p c n p c n n (some ⟨a2, 0, none⟩) (some ⟨a, 0, none⟩) cap2 cap ys xs hY hX hl2 hl hp2 hp97 hc.1 hc.2 w h1 h2)
  have hG : GoodT p (prN p c n xs ys) := prN_good (by omega) (fun t ht => ⟨(hX t ht).1, (hX t ht).2.1⟩) (fun t ht => ⟨(hY t ht).1, (hY t ht).2.1⟩)
  have hG' : GoodT p (prN p c n ys xs) := prN_good (by omega) (fun t ht => ⟨(hY t ht).1, (hY t ht).2.1⟩) (fun t ht => ⟨(hX t ht).1, (hX t ht).2.1⟩)
  obtain ⟨M1, hM1⟩ : ∃ R, prN p c n xs ys = R := ⟨_, rfl⟩
  obtain ⟨M2, hM2⟩ : ∃ R, prN p c n ys xs = R := ⟨_, rfl⟩
  rw [hM1] at hpo hG hlim
  rw [hM2] at hpq hG' hlim
  obtain ⟨l, hll⟩ : ∃ l, xs.length = l := ⟨_, rfl⟩
  obtain ⟨m, hmm⟩ : ∃ m, ys.length = m := ⟨_, rfl⟩
  rw [hll] at hpr hpo hpq ⊢
  rw [hmm] at hpr hpo hpq ⊢
  have hR1 := Lib.hid (fun w' (hb : Below w.heap.size w w') => hR.below hb)
  have hR2 := Lib.hid (fun w' (hb : Below w.heap.size w w') => hRy.below hb)
  have hsz1 := Lib.hid (fun W b nn (h : Smp W b nn M1) => h.size hG)
  have hsz2 := Lib.hid (fun W b nn (h : Smp W b nn M2) => h.size hG')
  have b00 := built00
  clear hts hx hts2 hy hk hx1 hy1 hR hRy hp hc hn hl hG0 hsz hto hl2 hG2 hto2 hM1 hM2 hll hmm hX hY hG hG'
  unfold ecl at *
  go_enter Try.func30, Try.ntmps30
  go_upto_region 4 with (first
    | (go_at_call 49; (have wb := ((((Below.refl w.heap.size w).alloc (Nat.le_refl _) (.cells #[.int .i64 p, .int .i64 c, .int .i64 n, .slice (some ⟨a, 0, none⟩) l cap] 28)).alloc (by simp) (.cells #[.int .i64 p, .int .i64 c, .int .i64 n, .slice (some ⟨a2, 0, none⟩) m cap2] 28)).alloc (by simp; omega) (.cells #[.int .i64 0, .int .i64 0, .int .i64 0, .slice none 0 0] 28)); (with_reducible refine (hpr.out _ (hR1.out _ wb) (hR2.out _ wb)).mono ?_); rintro e w1 ⟨rfl, hB1⟩; have oX1 := (((Own.new w #[.int .i64 p, .int .i64 c, .int .i64 n, .slice (some ⟨a, 0, none⟩) l cap] 28).alloc (.cells #[.int .i64 p, .int .i64 c, .int .i64 n, .slice (some ⟨a2, 0, none⟩) m cap2] 28)).alloc (.cells #[.int .i64 0, .int .i64 0, .int .i64 0, .slice none 0 0] 28)).below hB1 (by simp; omega); have oY1 := ((Own.at (w.alloc (.cells #[.int .i64 p, .int .i64 c, .int .i64 n, .slice (some ⟨a, 0, none⟩) l cap] 28)) #[.int .i64 p, .int .i64 c, .int .i64 n, .slice (some ⟨a2, 0, none⟩) m cap2] 28 (by simp : _ = w.heap.size + 1)).alloc (.cells #[.int .i64 0, .int .i64 0, .int .i64 0, .slice none 0 0] 28)).below hB1 (by simp); have oR1 := (Own.at ((w.alloc (.cells #[.int .i64 p, .int .i64 c, .int .i64 n, .slice (some ⟨a, 0, none⟩) l cap] 28)).alloc (.cells #[.int .i64 p, .int .i64 c, .int .i64 n, .slice (some ⟨a2, 0, none⟩) m cap2] 28)) #[.int .i64 0, .int .i64 0, .int .i64 0, .slice none 0 0] 28 (by simp : _ = w.heap.size + 1 + 1)).below hB1 (by simp); have b1 : Below w.heap.size w w1 := wb.trans (hB1.mono (by simp; omega)); clear hB1 wb))
    | (refine wpList_load_row rfl 28 _ rfl _ rfl 28 _ (0, 0) _ (((Own.new w #[.int .i64 p, .int .i64 c, .int .i64 n, .slice (some ⟨a, 0, none⟩) l cap] 28).alloc (.cells #[.int .i64 p, .int .i64 c, .int .i64 n, .slice (some ⟨a2, 0, none⟩) m cap2] 28)).alloc (.cells #[.int .i64 0, .int .i64 0, .int .i64 0, .slice none 0 0] 28)) Try.underlying28 rfl (by kernel_rfl) ?_)
    | (refine wpList_load_row rfl 28 _ rfl _ rfl 28 _ (0, 0) _ ((Own.at (w.alloc (.cells #[.int .i64 p, .int .i64 c, .int .i64 n, .slice (some ⟨a, 0, none⟩) l cap] 28)) #[.int .i64 p, .int .i64 c, .int .i64 n, .slice (some ⟨a2, 0, none⟩) m cap2] 28 (by simp : _ = w.heap.size + 1)).alloc (.cells #[.int .i64 0, .int .i64 0, .int .i64 0, .slice none 0 0] 28)) Try.underlying28 rfl (by kernel_rfl) ?_))
  have hRlt : w.heap.size + 1 + 1 < w1.heap.size := oR1.lt
  have wz := b1.size
  refine wp_region_st (fun x => Own x w.heap.size #[.int .i64 p, .int .i64 c, .int .i64 n, .slice (some ⟨a, 0, none⟩) l cap] 28 ∧ Own x (w.heap.size + 1) #[.int .i64 p, .int .i64 c, .int .i64 n, .slice (some ⟨a2, 0, none⟩) m cap2] 28) [(true, 0), (true, 1), (true, 3), (true, 4), (false, 2), (false, 5)] 6 (by kernel_rfl) (by kernel_rfl) ⟨oX1.drewN 1, oY1.drewN 1⟩ ?_
  have oXd : Own { w1 with drawn := w1.drawn + 1 } w.heap.size #[.int .i64 p, .int .i64 c, .int .i64 n, .slice (some ⟨a, 0, none⟩) l cap] 28 := oX1
  have oYd : Own { w1 with drawn := w1.drawn + 1 } (w.heap.size + 1) #[.int .i64 p, .int .i64 c, .int .i64 n, .slice (some ⟨a2, 0, none⟩) m cap2] 28 := oY1
  have oRd : Own { w1 with drawn := w1.drawn + 1 } (w.heap.size + 1 + 1) #[.int .i64 0, .int .i64 0, .int .i64 0, .slice none 0 0] 28 := oR1
  have bd : Below w.heap.size w { w1 with drawn := w1.drawn + 1 } := b1.drew
  have hRd : w.heap.size + 1 + 1 < ({ w1 with drawn := w1.drawn + 1 } : World).heap.size := hRlt
  clear oX1 oY1 oR1 b1 hRlt wz
  generalize ({ w1 with drawn := w1.drawn + 1 } : World) = w3 at *
  simp only [List.map_cons, List.map_nil, opS'_mk, opN_zero, opN_succ, List.drop_succ_cons, List.drop_zero]
  (apply wpSt_read; · (intro wd hS K hK; rw [if_pos (by rfl)]; refine still_load_row 28 (.tmp 2) rfl w.heap.size rfl 28 #[.int .i64 p, .int .i64 c, .int .i64 n, .slice (some ⟨a, 0, none⟩) l cap] _ hS.1 Try.underlying28 rfl (by kernel_rfl) ?_; exact hK))
  (apply wpSt_read; · (intro wd hS K hK; rw [if_pos (by rfl)]; refine still_load_row 28 (.tmp 3) rfl (w.heap.size + 1) rfl 28 #[.int .i64 p, .int .i64 c, .int .i64 n, .slice (some ⟨a2, 0, none⟩) m cap2] _ hS.2 Try.underlying28 rfl (by kernel_rfl) ?_; exact hK))
  (apply wpSt_read; · (intro wd hS K hK; rw [if_pos (by rfl)]; refine still_load_row 28 (.tmp 3) rfl (w.heap.size + 1) rfl 28 #[.int .i64 p, .int .i64 c, .int .i64 n, .slice (some ⟨a2, 0, none⟩) m cap2] _ hS.2 Try.underlying28 rfl (by kernel_rfl) ?_; exact hK))
  (apply wpSt_read; · (intro wd hS K hK; rw [if_pos (by rfl)]; refine still_load_row 28 (.tmp 2) rfl w.heap.size rfl 28 #[.int .i64 p, .int .i64 c, .int .i64 n, .slice (some ⟨a, 0, none⟩) l cap] _ hS.1 Try.underlying28 rfl (by kernel_rfl) ?_; exact hK))
  refine wpSt_keep (fun K hK => ?_)
  go_wp2_with (first
    | (go_at_call 61; ((with_reducible refine (hpo.out w3 (hR1.out _ bd) (hR2.out _ bd)).mono ?_); rintro e w4 ⟨⟨u1, n1, rfl, hn1, hb1, hM4⟩, hB4⟩)))
  have oX4 := oXd.below hB4 oXd.lt
  have oY4 := oYd.below hB4 oYd.lt
  have oR4 := oRd.below hB4 oRd.lt
  have b4 := bd.trans (hB4.mono bd.size)
  refine hK _ _ ⟨oX4, oY4⟩ rfl ?_
  clear hK K oXd oYd oRd hB4
  refine wpSt_keep (fun K hK => ?_)
  go_wp2_with (first
    | (go_at_call 61; ((with_reducible refine (hpq.out w4 (hR2.out _ b4) (hR1.out _ b4)).mono ?_); rintro e w5 ⟨⟨u2, n2, rfl, hn2, hb2, hN5⟩, hB5⟩)))
  have oX5 := oX4.below hB5 oX4.lt
  have oY5 := oY4.below hB5 oY4.lt
  have oR5 := oR4.below hB5 oR4.lt
  have hM5 := hM4.below hB5 hM4.lt
  have b5 := b4.trans (hB5.mono b4.size)
  have hu12 : u1 < u2 := by have := hM4.lt; omega
  have hu1 : w.heap.size ≤ u1 := by have := bd.size; omega
  have hRu : w.heap.size + 1 + 1 < u1 := by omega
  refine hK _ _ ⟨oX5, oY5⟩ rfl ?_
  clear hK K oX4 oY4 oR4 hB5 hM4
  refine wpSt_nil ?_
  obtain ⟨D1, hO1, hS1, hz1⟩ := hsz1.out _ _ _ hM5
  obtain ⟨D2, hO2, hS2, hz2⟩ := hsz2.out _ _ _ hN5
  have hz1' := Lib.hid hz1
  have hz2' := Lib.hid hz2
  clear hz1 hz2
  obtain ⟨z1, hzz1⟩ : ∃ z, M1.length = z := ⟨_, rfl⟩
  obtain ⟨z2, hzz2⟩ : ∃ z, M2.length = z := ⟨_, rfl⟩
  rw [hzz1] at hz1' hlim
  rw [hzz2] at hz2' hlim
  clear hzz1 hzz2
  by_cases h1 : 140 < z1
  · have h1i : (140 : Int) < (z1 : Int) := by omega
    go_wp2_with (first
      | (at_len; refine wpList_len_own _ rfl _ _ rfl _ _ Try.underlying54 _ u1 n1 _ rfl hO1 ?_; rw [hz1'.out])
      | (refine wpList_store_own rfl 28 _ _ rfl _ _ rfl rfl 28 _ oR5 (by kernel_rfl) rfl (by simp [Value.oneCell']) ?_; intro w6 oR6 hN6))
    refine bodyPost_ret (v := .tuple #[.agg #[.int .i64 0, .int .i64 0, .int .i64 0, .slice none 0 0], .int .i64 3]) (results_row_tmp rfl _ _ _ _ _ (0, 0) _ rfl oR6 Try.underlying28 rfl (by kernel_rfl) _ rfl) rfl ⟨rfl, b5.trans (hN6.below.mono (by omega))⟩
  · have h1i : ¬ (140 : Int) < (z1 : Int) := by omega
    have h2i : (140 : Int) < (z2 : Int) := by omega
    go_wp2_with (first
      | (at_len; refine wpList_len_own _ rfl _ _ rfl _ _ Try.underlying54 _ u1 n1 _ rfl hO1 ?_; rw [hz1'.out])
      | (refine wpList_len_if (H := Unit) rfl _ 54 rfl _ _ Try.underlying54 _ u2 n2 _ rfl hO2 ?_; rw [hz2'.out])
      | (refine wpList_store_own rfl 28 _ _ rfl _ _ rfl rfl 28 _ oR5 (by kernel_rfl) rfl (by simp [Value.oneCell']) ?_; intro w6 oR6 hN6))
    refine bodyPost_ret (v := .tuple #[.agg #[.int .i64 0, .int .i64 0, .int .i64 0, .slice none 0 0], .int .i64 3]) (results_row_tmp rfl _ _ _ _ _ (0, 0) _ rfl oR6 Try.underlying28 rfl (by kernel_rfl) _ rfl) rfl ⟨rfl, b5.trans (hN6.below.mono (by omega))⟩
set_option maxRecDepth 100000 in
set_option maxHeartbeats 16000000 in
theorem comI_ok (p c n : Int) (a cap a2 cap2 : Nat) (xs ys : List Tm) (hts : ∀ t ∈ xs, t.2.1.length = 16 ∧ Bytes t.2.1) (hx : xs.length ≤ 1048576) (hts2 : ∀ t ∈ ys, t.2.1.length = 16 ∧ Bytes t.2.1) (hy : ys.length ≤ 1048576) (hk : prC p c n xs p c n ys = 0) (hx1 : elB p c n xs = true) (hy1 : elB p c n ys = true) (hle1 : (prN p c n xs ys).length ≤ 140) (hle2 : (prN p c n ys xs).length ≤ 140) (p1 c1 n1' cd : Int) (L1 : List Tm) (hdj : ((smN p (-1) (prN p c n ys xs) (prN p c n xs ys)).length ≤ 140 ∧ p1 = p ∧ c1 = c ∧ n1' = n ∧ cd = 0 ∧ L1 = smN p (-1) (prN p c n ys xs) (prN p c n xs ys)) ∨ (140 < (smN p (-1) (prN p c n ys xs) (prN p c n xs ys)).length ∧ p1 = 0 ∧ c1 = 0 ∧ n1' = 0 ∧ cd = 3 ∧ L1 = [])) (w : World) (hR : RdT w (some ⟨a, 0, none⟩) xs) (hRy : RdT w (some ⟨a2, 0, none⟩) ys) :
    Calls Try.prog 30 #[.agg (ecl p c n (.slice (some ⟨a, 0, none⟩) xs.length cap)), .agg (ecl p c n (.slice (some ⟨a2, 0, none⟩) ys.length cap2))] w fun e w' => (∃ q cap, e = .returned (.tuple #[.agg (ecl p1 c1 n1' (.slice q L1.length cap)), .int .i64 cd]) ∧ Res w' w.heap.size q L1) ∧ Below w.heap.size w w' := by
  obtain ⟨hp, hc, hn, hl, hG0, hsz, hp2, hp97, hto⟩ := elB_good hx1 hts
  obtain ⟨_, _, _, hl2, hG2, hsz2, _, _, hto2⟩ := elB_good hy1 hts2
  have hX : ∀ t ∈ xs, t.1 = n ∧ VD (kTm t) ∧ 0 ≤ t.2.2 ∧ t.2.2 ≤ 100 := fun t ht => ⟨hsz t ht, (hto t ht).1, (hto t ht).2.1, (hto t ht).2.2⟩
  have hY : ∀ t ∈ ys, t.1 = n ∧ VD (kTm t) ∧ 0 ≤ t.2.2 ∧ t.2.2 ≤ 100 := fun t ht => ⟨hsz2 t ht, (hto2 t ht).1, (hto2 t ht).2.1, (hto2 t ht).2.2⟩
  have hpr := Lib.hid (fun w h1 h2 => prI_any p c n p c n (some ⟨a, 0, none⟩) (some ⟨a2, 0, none⟩) cap cap2 xs ys hts hx hts2 hy w h1 h2)
  rw [hk] at hpr
  have hpo := Lib.hid (fun w h1 h2 => poeI_any p c n p c n n (some ⟨a, 0, none⟩) (some ⟨a2, 0, none⟩) cap cap2 xs ys hX hY hl hl2 hp2 hp97 hc.1 hc.2 w h1 h2)
  have hpq := Lib.hid (fun w h1 h2 => poeI_any p c n p c n n (some ⟨a2, 0, none⟩) (some ⟨a, 0, none⟩) cap2 cap ys xs hY hX hl2 hl hp2 hp97 hc.1 hc.2 w h1 h2)
  have hG : GoodT p (prN p c n xs ys) := prN_good (by omega) (fun t ht => ⟨(hX t ht).1, (hX t ht).2.1⟩) (fun t ht => ⟨(hY t ht).1, (hY t ht).2.1⟩)
  have hG' : GoodT p (prN p c n ys xs) := prN_good (by omega) (fun t ht => ⟨(hY t ht).1, (hY t ht).2.1⟩) (fun t ht => ⟨(hX t ht).1, (hX t ht).2.1⟩)
  obtain ⟨M1, hM1⟩ : ∃ R, prN p c n xs ys = R := ⟨_, rfl⟩
  obtain ⟨M2, hM2⟩ : ∃ R, prN p c n ys xs = R := ⟨_, rfl⟩
  rw [hM1] at hpo hG hle1 hdj
  rw [hM2] at hpq hG' hle2 hdj
  obtain ⟨l, hll⟩ : ∃ l, xs.length = l := ⟨_, rfl⟩
  obtain ⟨m, hmm⟩ : ∃ m, ys.length = m := ⟨_, rfl⟩
  have hGR : GoodT p (smN p (-1) M2 M1) := smN_good (by omega) M2 M1 hG'.val hG
  have hlR := smN_len p (-1) M2 M1
  have hst := Lib.hid (fun (left : Lit → Bool) (h : ∀ t ∈ M2, left (kyD (kTm t)) = true) => lessN_start (p := p) (M1 := M1) h)
  have hen := Lib.hid (fun (left : Lit → Bool) (h : ∀ t ∈ M2, left (kyD (kTm t)) = false) => lessN_end (p := p) (M1 := M1) h)
  have hsp := Lib.hid (fun (left : Lit → Bool) (t : Tm) (ht : t ∈ M2) (hl : left (kyD (kTm t)) = true) => lessN_step (p := p) (by omega) hG hG' ht hl)
  have hlg := Lib.hid (fun (left : Lit → Bool) => lessN_good (p := p) (by omega) hG hG' left)
  have hrg := Lib.hid (fun (t : Tm) (ht : t ∈ M2) => show VD (kTm t) ∧ 1 ≤ t.2.2 ∧ t.2.2 < p from ⟨hG'.val t ht, hG'.rng t ht⟩)
  have hpp0 : 0 < p := by omega
  obtain ⟨R, hRR⟩ : ∃ R, smN p (-1) M2 M1 = R := ⟨_, rfl⟩
  rw [hRR] at hGR hlR hdj hen
  obtain ⟨A, hA⟩ : ∃ A : (Lit → Bool) → List Tm, lessN p M1 M2 = A := ⟨_, rfl⟩
  rw [hA] at hst hen hsp hlg
  have heos := Lib.hid (fun (b nn : Nat) (W : World) (hM : Smp W b nn R) => show Calls Try.prog 51 #[.agg (ecl p c n (.slice (some ⟨a, 0, none⟩) l cap)), .map (some b)] W fun e w' => (∃ q cp, e = .returned (.tuple #[.agg (ecl p1 c1 n1' (.slice q L1.length cp)), .int .i64 cd]) ∧ Res w' W.heap.size q L1) ∧ Below W.heap.size W w' from by
    rcases hdj with ⟨h, e1, e2, e3, e4, e5⟩ | ⟨h, e1, e2, e3, e4, e5⟩
    · subst e1 e2 e3 e4 e5
      refine (eos_any _ _ _ (some ⟨a, 0, none⟩) l cap b nn _ _ W hM hGR hp97 h).mono ?_
      rintro e w' ⟨qt, mt, ct, rfl, hT, hB⟩
      obtain ⟨rfl, hr⟩ := hT.res
      exact ⟨⟨qt, ct, rfl, hr⟩, hB⟩
    · subst e1 e2 e3 e4 e5
      exact res0 (eos_many p c n (some ⟨a, 0, none⟩) l cap b nn p R W hM hGR h (by omega)))
  rw [hll] at hpr hpo hpq ⊢
  rw [hmm] at hpr hpo hpq ⊢
  have hR1 := Lib.hid (fun w' (hb : Below w.heap.size w w') => hR.below hb)
  have hR2 := Lib.hid (fun w' (hb : Below w.heap.size w w') => hRy.below hb)
  have hsz1 := Lib.hid (fun W b nn (h : Smp W b nn M1) => h.size hG)
  have hsz2 := Lib.hid (fun W b nn (h : Smp W b nn M2) => h.size hG')
  have b00 := built00
  clear hts hx hts2 hy hk hx1 hy1 hR hRy hp hc hn hl hG0 hsz hto hl2 hG2 hto2 hM1 hM2 hll hmm hX hY hG hG' hdj hGR hlR hRR hA
  unfold ecl at *
  go_enter Try.func30, Try.ntmps30
  go_upto_region 4 with (first
    | (go_at_call 49; (have wb := ((((Below.refl w.heap.size w).alloc (Nat.le_refl _) (.cells #[.int .i64 p, .int .i64 c, .int .i64 n, .slice (some ⟨a, 0, none⟩) l cap] 28)).alloc (by simp) (.cells #[.int .i64 p, .int .i64 c, .int .i64 n, .slice (some ⟨a2, 0, none⟩) m cap2] 28)).alloc (by simp; omega) (.cells #[.int .i64 0, .int .i64 0, .int .i64 0, .slice none 0 0] 28)); (with_reducible refine (hpr.out _ (hR1.out _ wb) (hR2.out _ wb)).mono ?_); rintro e w1 ⟨rfl, hB1⟩; have oX1 := (((Own.new w #[.int .i64 p, .int .i64 c, .int .i64 n, .slice (some ⟨a, 0, none⟩) l cap] 28).alloc (.cells #[.int .i64 p, .int .i64 c, .int .i64 n, .slice (some ⟨a2, 0, none⟩) m cap2] 28)).alloc (.cells #[.int .i64 0, .int .i64 0, .int .i64 0, .slice none 0 0] 28)).below hB1 (by simp; omega); have oY1 := ((Own.at (w.alloc (.cells #[.int .i64 p, .int .i64 c, .int .i64 n, .slice (some ⟨a, 0, none⟩) l cap] 28)) #[.int .i64 p, .int .i64 c, .int .i64 n, .slice (some ⟨a2, 0, none⟩) m cap2] 28 (by simp : _ = w.heap.size + 1)).alloc (.cells #[.int .i64 0, .int .i64 0, .int .i64 0, .slice none 0 0] 28)).below hB1 (by simp); have oR1 := (Own.at ((w.alloc (.cells #[.int .i64 p, .int .i64 c, .int .i64 n, .slice (some ⟨a, 0, none⟩) l cap] 28)).alloc (.cells #[.int .i64 p, .int .i64 c, .int .i64 n, .slice (some ⟨a2, 0, none⟩) m cap2] 28)) #[.int .i64 0, .int .i64 0, .int .i64 0, .slice none 0 0] 28 (by simp : _ = w.heap.size + 1 + 1)).below hB1 (by simp); have b1 : Below w.heap.size w w1 := wb.trans (hB1.mono (by simp; omega)); clear hB1 wb))
    | (refine wpList_load_row rfl 28 _ rfl _ rfl 28 _ (0, 0) _ (((Own.new w #[.int .i64 p, .int .i64 c, .int .i64 n, .slice (some ⟨a, 0, none⟩) l cap] 28).alloc (.cells #[.int .i64 p, .int .i64 c, .int .i64 n, .slice (some ⟨a2, 0, none⟩) m cap2] 28)).alloc (.cells #[.int .i64 0, .int .i64 0, .int .i64 0, .slice none 0 0] 28)) Try.underlying28 rfl (by kernel_rfl) ?_)
    | (refine wpList_load_row rfl 28 _ rfl _ rfl 28 _ (0, 0) _ ((Own.at (w.alloc (.cells #[.int .i64 p, .int .i64 c, .int .i64 n, .slice (some ⟨a, 0, none⟩) l cap] 28)) #[.int .i64 p, .int .i64 c, .int .i64 n, .slice (some ⟨a2, 0, none⟩) m cap2] 28 (by simp : _ = w.heap.size + 1)).alloc (.cells #[.int .i64 0, .int .i64 0, .int .i64 0, .slice none 0 0] 28)) Try.underlying28 rfl (by kernel_rfl) ?_))
  have hRlt : w.heap.size + 1 + 1 < w1.heap.size := oR1.lt
  have wz := b1.size
  refine wp_region_st (fun x => Own x w.heap.size #[.int .i64 p, .int .i64 c, .int .i64 n, .slice (some ⟨a, 0, none⟩) l cap] 28 ∧ Own x (w.heap.size + 1) #[.int .i64 p, .int .i64 c, .int .i64 n, .slice (some ⟨a2, 0, none⟩) m cap2] 28) [(true, 0), (true, 1), (true, 3), (true, 4), (false, 2), (false, 5)] 6 (by kernel_rfl) (by kernel_rfl) ⟨oX1.drewN 1, oY1.drewN 1⟩ ?_
  have oXd : Own { w1 with drawn := w1.drawn + 1 } w.heap.size #[.int .i64 p, .int .i64 c, .int .i64 n, .slice (some ⟨a, 0, none⟩) l cap] 28 := oX1
  have oYd : Own { w1 with drawn := w1.drawn + 1 } (w.heap.size + 1) #[.int .i64 p, .int .i64 c, .int .i64 n, .slice (some ⟨a2, 0, none⟩) m cap2] 28 := oY1
  have oRd : Own { w1 with drawn := w1.drawn + 1 } (w.heap.size + 1 + 1) #[.int .i64 0, .int .i64 0, .int .i64 0, .slice none 0 0] 28 := oR1
  have bd : Below w.heap.size w { w1 with drawn := w1.drawn + 1 } := b1.drew
  have hRd : w.heap.size + 1 + 1 < ({ w1 with drawn := w1.drawn + 1 } : World).heap.size := hRlt
  clear oX1 oY1 oR1 b1 hRlt wz
  generalize ({ w1 with drawn := w1.drawn + 1 } : World) = w3 at *
  simp only [List.map_cons, List.map_nil, opS'_mk, opN_zero, opN_succ, List.drop_succ_cons, List.drop_zero]
  (apply wpSt_read; · (intro wd hS K hK; rw [if_pos (by rfl)]; refine still_load_row 28 (.tmp 2) rfl w.heap.size rfl 28 #[.int .i64 p, .int .i64 c, .int .i64 n, .slice (some ⟨a, 0, none⟩) l cap] _ hS.1 Try.underlying28 rfl (by kernel_rfl) ?_; exact hK))
  (apply wpSt_read; · (intro wd hS K hK; rw [if_pos (by rfl)]; refine still_load_row 28 (.tmp 3) rfl (w.heap.size + 1) rfl 28 #[.int .i64 p, .int .i64 c, .int .i64 n, .slice (some ⟨a2, 0, none⟩) m cap2] _ hS.2 Try.underlying28 rfl (by kernel_rfl) ?_; exact hK))
  (apply wpSt_read; · (intro wd hS K hK; rw [if_pos (by rfl)]; refine still_load_row 28 (.tmp 3) rfl (w.heap.size + 1) rfl 28 #[.int .i64 p, .int .i64 c, .int .i64 n, .slice (some ⟨a2, 0, none⟩) m cap2] _ hS.2 Try.underlying28 rfl (by kernel_rfl) ?_; exact hK))
  (apply wpSt_read; · (intro wd hS K hK; rw [if_pos (by rfl)]; refine still_load_row 28 (.tmp 2) rfl w.heap.size rfl 28 #[.int .i64 p, .int .i64 c, .int .i64 n, .slice (some ⟨a, 0, none⟩) l cap] _ hS.1 Try.underlying28 rfl (by kernel_rfl) ?_; exact hK))
  refine wpSt_keep (fun K hK => ?_)
  go_wp2_with (first
    | (go_at_call 61; ((with_reducible refine (hpo.out w3 (hR1.out _ bd) (hR2.out _ bd)).mono ?_); rintro e w4 ⟨⟨u1, n1, rfl, hn1, hb1, hM4⟩, hB4⟩)))
  have oX4 := oXd.below hB4 oXd.lt
  have oY4 := oYd.below hB4 oYd.lt
  have oR4 := oRd.below hB4 oRd.lt
  have b4 := bd.trans (hB4.mono bd.size)
  refine hK _ _ ⟨oX4, oY4⟩ rfl ?_
  clear hK K oXd oYd oRd hB4
  refine wpSt_keep (fun K hK => ?_)
  go_wp2_with (first
    | (go_at_call 61; ((with_reducible refine (hpq.out w4 (hR2.out _ b4) (hR1.out _ b4)).mono ?_); rintro e w5 ⟨⟨u2, n2, rfl, hn2, hb2, hN5⟩, hB5⟩)))
  have oX5 := oX4.below hB5 oX4.lt
  have oY5 := oY4.below hB5 oY4.lt
  have oR5 := oR4.below hB5 oR4.lt
  have hM5 := hM4.below hB5 hM4.lt
  have b5 := b4.trans (hB5.mono b4.size)
  have hu12 : u1 < u2 := by have := hM4.lt; omega
  have hu1 : w.heap.size ≤ u1 := by have := bd.size; omega
  have hRu : w.heap.size + 1 + 1 < u1 := by omega
  refine hK _ _ ⟨oX5, oY5⟩ rfl ?_
  clear hK K oX4 oY4 oR4 hB5 hM4
  refine wpSt_nil ?_
  obtain ⟨D1, hO1, hS1, hz1⟩ := hsz1.out _ _ _ hM5
  obtain ⟨D2, hO2, hS2, hz2⟩ := hsz2.out _ _ _ hN5
  have hz1' := Lib.hid hz1
  have hz2' := Lib.hid hz2
  have h1i : ¬ (140 : Int) < (M1.length : Int) := by omega
  have h2i : ¬ (140 : Int) < (M2.length : Int) := by omega
  have hst0 := Lib.hid (hst.out (Maps.has D2) (fun t ht => (hS2.has _).2 ⟨t, ht, rfl⟩))
  have hcnt : Maps.size D2 ≤ 140 := by omega
  have hS2' := Lib.hid hS2
  obtain ⟨m1, hm1⟩ : ∃ z, M1.length = z := ⟨_, rfl⟩
  obtain ⟨m2, hm2⟩ : ∃ z, M2.length = z := ⟨_, rfl⟩
  rw [hm1] at hz1' h1i
  rw [hm2] at hz2' h2i
  clear hz1 hz2 hm1 hm2 hle1 hle2 hst hS2
  go_wp2_with (first
    | (at_len; refine wpList_len_own _ rfl _ _ rfl _ _ Try.underlying54 _ u1 n1 _ rfl hO1 ?_; rw [hz1'.out])
    | (refine wpList_len_if (H := Unit) rfl _ 54 rfl _ _ Try.underlying54 _ u2 n2 _ rfl hO2 ?_; rw [hz2'.out])
    | (at_range; refine wpList_range_own _ rfl _ 54 rfl 68 2 keyedD Try.underlying54 _ u2 n2 _ rfl hO2 ?_; intro w0 hrg0 hg0 hs0)
    | go_in)
  have z5 := b5.size
  have lN := hN5.lt
  have lM5 := hM5.lt
  go_loopw [10] (fun _ wr => ∃ (left : Lit → Bool) (cnt nn : Nat), wr.ranges Try.prog 68 (plainElem Try.prog 2) u2 w5.heap.size n2 D2 left cnt ∧ nn + cnt ≤ 200000 + 140 ∧ Own wr w.heap.size #[.int .i64 p, .int .i64 c, .int .i64 n, .slice (some ⟨a, 0, none⟩) l cap] 28 ∧ Own wr (w.heap.size + 1 + 1) #[.int .i64 0, .int .i64 0, .int .i64 0, .slice none 0 0] 28 ∧ Smp wr u1 nn (A left) ∧ Below w.heap.size w wr ∧ w5.heap.size < wr.heap.size) (fun _ wr => wr.rangeLeft u2 w5.heap.size)
  case atStart =>
    exact ⟨_, _, n1, hrg0, by omega, (hg0.block _ oX5.lt (by simp)).trans oX5, (hg0.block _ oR5.lt (by simp)).trans oR5, by rw [hst0.out]; exact hM5.kept hg0 (by simp), b5.grown hg0 b5.size (fun j e => by cases e), by omega⟩
  case round =>
    clear hrg0 hg0 hs0 oX5 oR5 hM5 hN5 hO1 hS1 hO2
    obtain ⟨left, cnt, nn, hrg1, hnc, oX, oR, sM, bW, zW⟩ := hrel
    go_wp2_with (first
      | (at_next; refine wpList_next_ranges _ rfl _ rfl 68 keyedD (plainElem Try.prog 2) id id (fun key kl hk => ⟨key, rfl⟩) (fun v _ _ => ⟨v, rfl⟩) u2 w5.heap.size n2 _ _ _ rfl hrg1 ?_ ?_)
      | go_in)
    · intro hc0 hl0
      have hfin := hen.out left (fun t ht => hl0 _)
      have sM' : Smp wr u1 nn R := by rw [← hfin]; exact sM
      go_wp2_with (first
        | (refine wpList_load_row rfl 28 _ rfl _ rfl 28 _ (0, 0) _ oX Try.underlying28 rfl (by kernel_rfl) ?_)
        | (go_at_call 51; ((with_reducible refine (heos.out u1 nn wr sM').mono ?_); rintro e w6 ⟨⟨qt, ct, rfl, hr⟩, hB6⟩; have oR6 := oR.below hB6 oR.lt; have b6 := bW.trans (hB6.mono bW.size)))
        | (refine wpList_store_own rfl 28 _ _ rfl _ _ rfl rfl 28 _ oR6 (by kernel_rfl) rfl (by simp [Value.oneCell']) ?_; intro w7 oR7 hN7))
      have hr7 : Res w7 w.heap.size qt L1 := Res.nl2 (Res.weak hr bW.size) hN7 oR6
      refine bodyPost_ret (v := .tuple #[.agg #[.int .i64 p1, .int .i64 c1, .int .i64 n1', .slice qt L1.length ct], .int .i64 cd]) (results_row_tmp rfl _ _ _ _ _ (0, 0) _ rfl oR7 Try.underlying28 rfl (by kernel_rfl) _ rfl) rfl ⟨⟨qt, ct, rfl, hr7⟩, b6.trans (hN7.below.mono (by omega))⟩
    · intro x c' kl yd yp w2 cnt2 hkey hlk hv hat hrg2 hlt hg2 hs2 henq
      have hhas : Maps.has D2 kl = true := Maps.has_true_of_atKey hat
      obtain ⟨t, ht, rfl⟩ := (hS2'.out.has _).1 hhas
      obtain ⟨hvd, hf1, hf2⟩ := hrg.out t ht
      obtain rfl : x = .agg (dcells (kTm t).1 (kTm t).2) := keyedD.inj hkey (kyD_vd hvd)
      obtain ⟨f0, rfl, hyy, hwc⟩ := plainElem_int_inv Try.underlying2 hv
      obtain ⟨rfl, rfl⟩ := Prod.mk.inj hyy
      have hfe : f0 = t.2.2 := by
        have h1 := hat (.lit (.int .i64 0))
        have h2 := hS2'.out.at_ t ht (.lit (.int .i64 0))
        have h3 := h1.symm.trans h2
        injection h3 with h3
        injection h3 with _ h3
      subst hfe
      have hnx := hsp.out left t ht hlk
      have hgl := hlg.out left
      obtain ⟨d, hd⟩ : ∃ d, kTm t = d := ⟨_, rfl⟩
      obtain ⟨f, hf⟩ : ∃ f, t.2.2 = f := ⟨_, rfl⟩
      rw [hf] at hf1 hf2 hnx henq
      rw [hd] at hvd hnx henq hrg2
      simp only [id, hd, hf]
      clear hd hf hat hkey hv hyy hwc hlk hhas ht
      obtain ⟨dn, dm⟩ := d
      have hvd' : VD (dn, dm) := hvd
      have hnx' : A (fun z => left z && !z.sameKey (kyD (dn, dm))) = addT p (dn, dm) (-f) (A left) := hnx
      have wn : wrap64 (-f) = -f := IntWalk.wrap64_in _ (by omega)
      have hadd := Lib.hid (fun W hM => add_any u1 nn (A left) p (-f) dn dm W hM hgl hvd' hp2 hp97 (by omega) (by omega) (by omega))
      rw [← hnx'] at hadd
      have hl := Lib.hid (show dm.length = 16 from hvd'.2.1)
      have oX2 : Own w2 w.heap.size #[.int .i64 p, .int .i64 c, .int .i64 n, .slice (some ⟨a, 0, none⟩) l cap] 28 := (hg2.block _ oX.lt (fun e => by have := Option.some.inj e; omega)).trans oX
      have oR2 : Own w2 (w.heap.size + 1 + 1) #[.int .i64 0, .int .i64 0, .int .i64 0, .slice none 0 0] 28 := (hg2.block _ oR.lt (fun e => by have := Option.some.inj e; omega)).trans oR
      have sM2 : Smp w2 u1 nn (A left) := sM.kept hg2 (fun e => by have := Option.some.inj e; omega)
      have b2 : Below w.heap.size w w2 := bW.grown hg2 bW.size (fun j e => by obtain rfl : _ = j := Option.some.inj e; omega)
      have zz2 : w5.heap.size < w2.heap.size := by omega
      have henq' : (Instr.entry (.pointer (some ⟨w5.heap.size, 0, none⟩))).run Try.prog w2 = .ok (.tuple #[.agg (dcells dn dm), .int .i64 f]) w2 := henq
      clear hvd hvd' hnx hnx' hgl hf1 hf2 henq sM oX oR bW zW hg2 hs2
      go_wp2_with (first
        | (go_at_call 70; ((with_reducible refine (hadd.out w3 sM3).mono ?_); rintro e w4 ⟨rfl, sM4, hG4⟩))
        | (refine wpList_load_row rfl 68 _ rfl _ rfl 68 _ (0, 0) _ hO3 Try.underlying68 rfl (row26 (d17 _ _ hl.out)) ?_)
        | (refine wpList_store_own rfl 68 _ _ rfl _ _ rfl rfl 68 _ (Own.new w2 _ _) (row26 (d17 _ _ hl.out)) (z_eq (d17 _ _ hl.out)) (dcells_one _ _) ?_; intro w3 hO3 hN3; have oX3 := (oX2.alloc _).only hN3 (by have := oX2.lt; omega); have oR3 := (oR2.alloc _).only hN3 (by have := oR2.lt; omega); have sM3 := (sM2.alloc _).only hN3 (by have := sM2.lt; omega); have b3 : Below w.heap.size w w3 := (b2.alloc b2.size _).trans (hN3.below.mono b2.size); have x3 : w3.cell? ⟨w.heap.size, 0, none⟩ = some (.int .i64 p) := oX3.cell 0; have zz3 : w3.heap.size = w2.heap.size + 1 := (by rw [hN3.size]; simp)))
      have g3 : w2.grownBy w3 none := ⟨hN3.below.os, hN3.below.tape, hN3.below.output, by omega, fun j hj _ => (hN3.other j (by omega)).trans (Below.heap_alloc _ _ _ hj)⟩
      have hrg3 := hrg2.kept g3 (by simp) (by simp)
      have hrg4 := hrg3.kept hG4 (fun e => by have := Option.some.inj e; omega) (fun e => by have := Option.some.inj e; omega)
      have oX4 : Own w4 w.heap.size #[.int .i64 p, .int .i64 c, .int .i64 n, .slice (some ⟨a, 0, none⟩) l cap] 28 := (hG4.block _ oX3.lt (fun e => by have := Option.some.inj e; omega)).trans oX3
      have oR4 : Own w4 (w.heap.size + 1 + 1) #[.int .i64 0, .int .i64 0, .int .i64 0, .slice none 0 0] 28 := (hG4.block _ oR3.lt (fun e => by have := Option.some.inj e; omega)).trans oR3
      have b4 : Below w.heap.size w w4 := b3.grown hG4 b3.size (fun j e => by obtain rfl : _ = j := Option.some.inj e; omega)
      have zz4 := hG4.size
      go_roundw
      case rel => exact ⟨_, cnt2, nn + 1, hrg4, by omega, oX4, oR4, sM4, b4, by omega⟩
      case measure => rw [hrg4.left_eq, hrg1.left_eq]; exact hlt
end Go.Proofs.Ytpmcngmphkegnaa
