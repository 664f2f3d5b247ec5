/- AddElements: both sides. (Written by genadc.py.) -/
import Derived.Test.YtpmcngmphkegnaaTld
import Derived.Test.YtpmcngmphkegnaaAdp
import Derived.Test.YtpmcngmphkegnaaScl
namespace Go.Proofs.Ytpmcngmphkegnaa
open Go.RowKit Go.Lib
set_option linter.unusedVariables false
set_option linter.unusedSimpArgs false
theorem MnT.onl {w w' : World} {B g b : Nat} {L : List Tm} (h : MnT w B g L) (hN : Only b w w') (hb : b ≠ g) : MnT w' B g L := by
  obtain ⟨h0, sp, ho⟩ := h
  exact ⟨h0, sp, ho.only hN (fun e => hb e.symm)⟩
set_option maxRecDepth 100000 in
set_option maxHeartbeats 4000000 in
theorem addI_bad (p c n p2 c2 n2 : Int) (a cap a2 cap2 : Nat) (xs ys : List Tm) (hts : ∀ t ∈ xs, t.2.1.length = 16 ∧ Bytes t.2.1) (hx : xs.length ≤ 1048576) (hts2 : ∀ t ∈ ys, t.2.1.length = 16 ∧ Bytes t.2.1) (hy : ys.length ≤ 1048576) (k : Int) (hk : prC p c n xs p2 c2 n2 ys = k) (h0 : k ≠ 0) (w : World) (hR : RdT w (some ⟨a, 0, none⟩) xs) (hRy : RdT w (some ⟨a2, 0, none⟩) ys) :
    Calls Try.prog 17 #[.agg (ecl p c n (.slice (some ⟨a, 0, none⟩) xs.length cap)), .agg (ecl p2 c2 n2 (.slice (some ⟨a2, 0, none⟩) ys.length cap2))] w fun e w' => e = .returned (.tuple #[.agg (ecl 0 0 0 (.slice none 0 0)), .int .i64 k]) ∧ Below w.heap.size w w' := by
  have hpr := Lib.hid (fun w h1 h2 => prI_any p c n p2 c2 n2 (some ⟨a, 0, none⟩) (some ⟨a2, 0, none⟩) cap cap2 xs ys hts hx hts2 hy w h1 h2)
  rw [hk] at hpr
  have hk0 : (k != 0) = true := by simpa using h0
  have hR1 := Lib.hid (fun w' (hb : Below w.heap.size w w') => hR.below hb)
  have hR2 := Lib.hid (fun w' (hb : Below w.heap.size w w') => hRy.below hb)
  obtain ⟨l, hll⟩ : ∃ l, xs.length = l := ⟨_, rfl⟩
  obtain ⟨m, hmm⟩ : ∃ m, ys.length = m := ⟨_, rfl⟩
  rw [hll, hmm] at hpr ⊢
  have b00 := built00
  clear hts hx hts2 hy hk h0 hR hRy hll hmm
  unfold ecl at *
  go_enter Try.func17, Try.ntmps17
  go_wp2_with (first
    | (go_at_call 49; (have wb := ((((Below.refl w.heap.size w).alloc (Nat.le_refl _) (.cells #[.int .i64 p, .int .i64 c, .int .i64 n, .slice (some ⟨a, 0, none⟩) l cap] 28)).alloc (by simp) (.cells #[.int .i64 p2, .int .i64 c2, .int .i64 n2, .slice (some ⟨a2, 0, none⟩) m cap2] 28)).alloc (by simp; omega) (.cells #[.int .i64 0, .int .i64 0, .int .i64 0, .slice none 0 0] 28)); (with_reducible refine (hpr.out _ (hR1.out _ wb) (hR2.out _ wb)).mono ?_); rintro e w1 ⟨rfl, hB1⟩; have oX1 := (((Own.new w #[.int .i64 p, .int .i64 c, .int .i64 n, .slice (some ⟨a, 0, none⟩) l cap] 28).alloc (.cells #[.int .i64 p2, .int .i64 c2, .int .i64 n2, .slice (some ⟨a2, 0, none⟩) m cap2] 28)).alloc (.cells #[.int .i64 0, .int .i64 0, .int .i64 0, .slice none 0 0] 28)).below hB1 (by simp; omega); have oY1 := ((Own.at (w.alloc (.cells #[.int .i64 p, .int .i64 c, .int .i64 n, .slice (some ⟨a, 0, none⟩) l cap] 28)) #[.int .i64 p2, .int .i64 c2, .int .i64 n2, .slice (some ⟨a2, 0, none⟩) m cap2] 28 (by simp : _ = w.heap.size + 1)).alloc (.cells #[.int .i64 0, .int .i64 0, .int .i64 0, .slice none 0 0] 28)).below hB1 (by simp); have oR1 := (Own.at ((w.alloc (.cells #[.int .i64 p, .int .i64 c, .int .i64 n, .slice (some ⟨a, 0, none⟩) l cap] 28)).alloc (.cells #[.int .i64 p2, .int .i64 c2, .int .i64 n2, .slice (some ⟨a2, 0, none⟩) m cap2] 28)) #[.int .i64 0, .int .i64 0, .int .i64 0, .slice none 0 0] 28 (by simp : _ = w.heap.size + 1 + 1)).below hB1 (by simp); have b1 : Below w.heap.size w w1 := wb.trans (hB1.mono (by simp; omega)); clear hB1 wb))
    | (refine wpList_load_row rfl 28 _ rfl _ rfl 28 _ (0, 0) _ (((Own.new w #[.int .i64 p, .int .i64 c, .int .i64 n, .slice (some ⟨a, 0, none⟩) l cap] 28).alloc (.cells #[.int .i64 p2, .int .i64 c2, .int .i64 n2, .slice (some ⟨a2, 0, none⟩) m cap2] 28)).alloc (.cells #[.int .i64 0, .int .i64 0, .int .i64 0, .slice none 0 0] 28)) Try.underlying28 rfl (by kernel_rfl) ?_)
    | (refine wpList_load_row rfl 28 _ rfl _ rfl 28 _ (0, 0) _ ((Own.at (w.alloc (.cells #[.int .i64 p, .int .i64 c, .int .i64 n, .slice (some ⟨a, 0, none⟩) l cap] 28)) #[.int .i64 p2, .int .i64 c2, .int .i64 n2, .slice (some ⟨a2, 0, none⟩) m cap2] 28 (by simp : _ = w.heap.size + 1)).alloc (.cells #[.int .i64 0, .int .i64 0, .int .i64 0, .slice none 0 0] 28)) Try.underlying28 rfl (by kernel_rfl) ?_)
    | (refine wpList_store_own rfl 28 _ _ rfl _ _ rfl rfl 28 _ oR1 (by kernel_rfl) rfl (by simp [Value.oneCell']) ?_; intro w5 oR5 hN5))
  refine bodyPost_ret (v := .tuple #[.agg #[.int .i64 0, .int .i64 0, .int .i64 0, .slice none 0 0], .int .i64 k]) (results_row_tmp rfl _ _ _ _ _ (0, 0) _ rfl oR5 Try.underlying28 rfl (by kernel_rfl) _ rfl) rfl ⟨rfl, b1.trans (hN5.below.mono (by omega))⟩
set_option maxRecDepth 100000 in
set_option maxHeartbeats 4000000 in
theorem addS_bad (p c n p2 c2 n2 : Int) (a cap a2 cap2 : Nat) (xs ys : List Tm) (hts : ∀ t ∈ xs, t.2.1.length = 16 ∧ Bytes t.2.1) (hx : xs.length ≤ 1048576) (hts2 : ∀ t ∈ ys, t.2.1.length = 16 ∧ Bytes t.2.1) (hy : ys.length ≤ 1048576) (hpw : -9223372036854775808 ≤ p ∧ p ≤ 9223372036854775807) (hpw2 : -9223372036854775808 ≤ p2 ∧ p2 ≤ 9223372036854775807) (k : Int) (hk : prC p c n xs p2 c2 n2 ys = k) (h0 : k ≠ 0) (w : World) (hR : RdT w (some ⟨a, 0, none⟩) xs) (hRy : RdT w (some ⟨a2, 0, none⟩) ys) :
    Calls Try.prog 15 #[.agg (ecl p c n (.slice (some ⟨a, 0, none⟩) xs.length cap)), .agg (ecl p2 c2 n2 (.slice (some ⟨a2, 0, none⟩) ys.length cap2))] w fun e w' => e = .returned (.tuple #[.agg (ecl 0 0 0 (.slice none 0 0)), .int .i64 k]) ∧ Below w.heap.size w w' := by
  have hpr := Lib.hid (fun w h1 h2 => prS_any p c n p2 c2 n2 (some ⟨a, 0, none⟩) (some ⟨a2, 0, none⟩) cap cap2 xs ys hts hx hts2 hy hpw hpw2 w h1 h2)
  rw [hk] at hpr
  have hk0 : (k != 0) = true := by simpa using h0
  have hR1 := Lib.hid (fun w' (hb : Below w.heap.size w w') => hR.below hb)
  have hR2 := Lib.hid (fun w' (hb : Below w.heap.size w w') => hRy.below hb)
  obtain ⟨l, hll⟩ : ∃ l, xs.length = l := ⟨_, rfl⟩
  obtain ⟨m, hmm⟩ : ∃ m, ys.length = m := ⟨_, rfl⟩
  rw [hll, hmm] at hpr ⊢
  have b00 := built00
  clear hts hx hts2 hy hk h0 hR hRy hll hmm hpw hpw2
  unfold ecl at *
  go_enter Try.func15, Try.ntmps15
  go_wp2_with (first
    | (go_at_call 45; (have wb := ((((Below.refl w.heap.size w).alloc (Nat.le_refl _) (.cells #[.int .i64 p, .int .i64 c, .int .i64 n, .slice (some ⟨a, 0, none⟩) l cap] 28)).alloc (by simp) (.cells #[.int .i64 p2, .int .i64 c2, .int .i64 n2, .slice (some ⟨a2, 0, none⟩) m cap2] 28)).alloc (by simp; omega) (.cells #[.int .i64 0, .int .i64 0, .int .i64 0, .slice none 0 0] 28)); (with_reducible refine (hpr.out _ (hR1.out _ wb) (hR2.out _ wb)).mono ?_); rintro e w1 ⟨rfl, hB1⟩; have oX1 := (((Own.new w #[.int .i64 p, .int .i64 c, .int .i64 n, .slice (some ⟨a, 0, none⟩) l cap] 28).alloc (.cells #[.int .i64 p2, .int .i64 c2, .int .i64 n2, .slice (some ⟨a2, 0, none⟩) m cap2] 28)).alloc (.cells #[.int .i64 0, .int .i64 0, .int .i64 0, .slice none 0 0] 28)).below hB1 (by simp; omega); have oY1 := ((Own.at (w.alloc (.cells #[.int .i64 p, .int .i64 c, .int .i64 n, .slice (some ⟨a, 0, none⟩) l cap] 28)) #[.int .i64 p2, .int .i64 c2, .int .i64 n2, .slice (some ⟨a2, 0, none⟩) m cap2] 28 (by simp : _ = w.heap.size + 1)).alloc (.cells #[.int .i64 0, .int .i64 0, .int .i64 0, .slice none 0 0] 28)).below hB1 (by simp); have oR1 := (Own.at ((w.alloc (.cells #[.int .i64 p, .int .i64 c, .int .i64 n, .slice (some ⟨a, 0, none⟩) l cap] 28)).alloc (.cells #[.int .i64 p2, .int .i64 c2, .int .i64 n2, .slice (some ⟨a2, 0, none⟩) m cap2] 28)) #[.int .i64 0, .int .i64 0, .int .i64 0, .slice none 0 0] 28 (by simp : _ = w.heap.size + 1 + 1)).below hB1 (by simp); have b1 : Below w.heap.size w w1 := wb.trans (hB1.mono (by simp; omega)); clear hB1 wb))
    | (refine wpList_load_row rfl 28 _ rfl _ rfl 28 _ (0, 0) _ (((Own.new w #[.int .i64 p, .int .i64 c, .int .i64 n, .slice (some ⟨a, 0, none⟩) l cap] 28).alloc (.cells #[.int .i64 p2, .int .i64 c2, .int .i64 n2, .slice (some ⟨a2, 0, none⟩) m cap2] 28)).alloc (.cells #[.int .i64 0, .int .i64 0, .int .i64 0, .slice none 0 0] 28)) Try.underlying28 rfl (by kernel_rfl) ?_)
    | (refine wpList_load_row rfl 28 _ rfl _ rfl 28 _ (0, 0) _ ((Own.at (w.alloc (.cells #[.int .i64 p, .int .i64 c, .int .i64 n, .slice (some ⟨a, 0, none⟩) l cap] 28)) #[.int .i64 p2, .int .i64 c2, .int .i64 n2, .slice (some ⟨a2, 0, none⟩) m cap2] 28 (by simp : _ = w.heap.size + 1)).alloc (.cells #[.int .i64 0, .int .i64 0, .int .i64 0, .slice none 0 0] 28)) Try.underlying28 rfl (by kernel_rfl) ?_)
    | (refine wpList_store_own rfl 28 _ _ rfl _ _ rfl rfl 28 _ oR1 (by kernel_rfl) rfl (by simp [Value.oneCell']) ?_; intro w5 oR5 hN5))
  refine bodyPost_ret (v := .tuple #[.agg #[.int .i64 0, .int .i64 0, .int .i64 0, .slice none 0 0], .int .i64 k]) (results_row_tmp rfl _ _ _ _ _ (0, 0) _ rfl oR5 Try.underlying28 rfl (by kernel_rfl) _ rfl) rfl ⟨rfl, b1.trans (hN5.below.mono (by omega))⟩
set_option maxRecDepth 100000 in
set_option maxHeartbeats 4000000 in
theorem addI_ok (p c n p2 c2 n2 : Int) (a cap a2 cap2 : Nat) (xs ys : List Tm) (hts : ∀ t ∈ xs, t.2.1.length = 16 ∧ Bytes t.2.1) (hx : xs.length ≤ 1048576) (hts2 : ∀ t ∈ ys, t.2.1.length = 16 ∧ Bytes t.2.1) (hy : ys.length ≤ 1048576) (hk : prC p c n xs p2 c2 n2 ys = 0) (hx1 : elB p c n xs = true) (hy1 : elB p2 c2 n2 ys = true) (hpp : p = p2) (hlR : (smN p 1 ys xs).length ≤ 140) (w : World) (hR : RdT w (some ⟨a, 0, none⟩) xs) (hRy : RdT w (some ⟨a2, 0, none⟩) ys) :
    Calls Try.prog 17 #[.agg (ecl p c n (.slice (some ⟨a, 0, none⟩) xs.length cap)), .agg (ecl p2 c2 n2 (.slice (some ⟨a2, 0, none⟩) ys.length cap2))] w fun e w' => (∃ q cap, e = .returned (.tuple #[.agg (ecl p c n (.slice q (smN p 1 ys xs).length cap)), .int .i64 0]) ∧ Res w' w.heap.size q (smN p 1 ys xs)) ∧ Below w.heap.size w w' := by
  subst hpp
  obtain ⟨hp, hc, hn, hl, hG0, hsz, hp2, hp97, hto⟩ := elB_good hx1 hts
  obtain ⟨_, hc2, hn2, hl2, hG2, hsz2, _, _, hto2⟩ := elB_good hy1 hts2
  have hpr := Lib.hid (fun w h1 h2 => prI_any p c n p c2 n2 (some ⟨a, 0, none⟩) (some ⟨a2, 0, none⟩) cap cap2 xs ys hts hx hts2 hy w h1 h2)
  rw [hk] at hpr
  have hadd := Lib.hid (fun W hR => addTs_any W.heap.size 0 [] p c n 1 (some ⟨a, 0, none⟩) cap xs (W.alloc (.map #[] 0)) hR (Smp.new W) (Good.nil p) hto hp2 hp97 (by omega) (by omega) (by omega))
  rw [smN_self hG0] at hadd
  have hadd2 := Lib.hid (fun b W hR hM => addTs_any b (0 + xs.length) xs p c2 n2 1 (some ⟨a2, 0, none⟩) cap2 ys W hR hM hG0 hto2 hp2 hp97 (by omega) (by omega) (by omega))
  have hG : GoodT p (smN p 1 ys xs) := smN_good (by omega) ys xs (fun t ht => (hto2 t ht).1) hG0
  have hln := smN_len p 1 ys xs
  obtain ⟨R, hRR⟩ : ∃ R, smN p 1 ys xs = R := ⟨_, rfl⟩
  rw [hRR] at hadd2 hG hln hlR ⊢
  obtain ⟨l, hll⟩ : ∃ l, xs.length = l := ⟨_, rfl⟩
  obtain ⟨m, hmm⟩ : ∃ m, ys.length = m := ⟨_, rfl⟩
  have heos := Lib.hid (fun b W hM => eos_any p c n (some ⟨a, 0, none⟩) l cap b (0 + l + m) p R W hM hG hp97 (by omega))
  rw [hll] at hpr hadd hadd2 ⊢
  rw [hmm] at hpr hadd2 ⊢
  have hR1 := Lib.hid (fun w' (hb : Below w.heap.size w w') => hR.below hb)
  have hR2 := Lib.hid (fun w' (hb : Below w.heap.size w w') => hRy.below hb)
  have hmk : ∀ w : World, (Instr.makeMap 54 none).run Try.prog w = .ok (.map (some w.heap.size)) (w.alloc (.map #[] 0)) := fun w => rfl
  clear hts hx hts2 hy hk hx1 hy1 hR hRy hp hc hn hl hG0 hsz hto hc2 hn2 hl2 hG2 hsz2 hto2 hG hln hlR hRR hll hmm
  unfold ecl at *
  go_enter Try.func17, Try.ntmps17
  go_wp2_with (first
    | (go_at_call 49; (have wb := ((((Below.refl w.heap.size w).alloc (Nat.le_refl _) (.cells #[.int .i64 p, .int .i64 c, .int .i64 n, .slice (some ⟨a, 0, none⟩) l cap] 28)).alloc (by simp) (.cells #[.int .i64 p, .int .i64 c2, .int .i64 n2, .slice (some ⟨a2, 0, none⟩) m cap2] 28)).alloc (by simp; omega) (.cells #[.int .i64 0, .int .i64 0, .int .i64 0, .slice none 0 0] 28)); (with_reducible refine (hpr.out _ (hR1.out _ wb) (hR2.out _ wb)).mono ?_); rintro e w1 ⟨rfl, hB1⟩; have oX1 := (((Own.new w #[.int .i64 p, .int .i64 c, .int .i64 n, .slice (some ⟨a, 0, none⟩) l cap] 28).alloc (.cells #[.int .i64 p, .int .i64 c2, .int .i64 n2, .slice (some ⟨a2, 0, none⟩) m cap2] 28)).alloc (.cells #[.int .i64 0, .int .i64 0, .int .i64 0, .slice none 0 0] 28)).below hB1 (by simp; omega); have oY1 := ((Own.at (w.alloc (.cells #[.int .i64 p, .int .i64 c, .int .i64 n, .slice (some ⟨a, 0, none⟩) l cap] 28)) #[.int .i64 p, .int .i64 c2, .int .i64 n2, .slice (some ⟨a2, 0, none⟩) m cap2] 28 (by simp : _ = w.heap.size + 1)).alloc (.cells #[.int .i64 0, .int .i64 0, .int .i64 0, .slice none 0 0] 28)).below hB1 (by simp); have oR1 := (Own.at ((w.alloc (.cells #[.int .i64 p, .int .i64 c, .int .i64 n, .slice (some ⟨a, 0, none⟩) l cap] 28)).alloc (.cells #[.int .i64 p, .int .i64 c2, .int .i64 n2, .slice (some ⟨a2, 0, none⟩) m cap2] 28)) #[.int .i64 0, .int .i64 0, .int .i64 0, .slice none 0 0] 28 (by simp : _ = w.heap.size + 1 + 1)).below hB1 (by simp); have b1 : Below w.heap.size w w1 := wb.trans (hB1.mono (by simp; omega)); clear hB1 wb))
    | (refine wpList_load_row rfl 28 _ rfl _ rfl 28 _ (0, 0) _ (((Own.new w #[.int .i64 p, .int .i64 c, .int .i64 n, .slice (some ⟨a, 0, none⟩) l cap] 28).alloc (.cells #[.int .i64 p, .int .i64 c2, .int .i64 n2, .slice (some ⟨a2, 0, none⟩) m cap2] 28)).alloc (.cells #[.int .i64 0, .int .i64 0, .int .i64 0, .slice none 0 0] 28)) Try.underlying28 rfl (by kernel_rfl) ?_)
    | (refine wpList_load_row rfl 28 _ rfl _ rfl 28 _ (0, 0) _ ((Own.at (w.alloc (.cells #[.int .i64 p, .int .i64 c, .int .i64 n, .slice (some ⟨a, 0, none⟩) l cap] 28)) #[.int .i64 p, .int .i64 c2, .int .i64 n2, .slice (some ⟨a2, 0, none⟩) m cap2] 28 (by simp : _ = w.heap.size + 1)).alloc (.cells #[.int .i64 0, .int .i64 0, .int .i64 0, .slice none 0 0] 28)) Try.underlying28 rfl (by kernel_rfl) ?_)
    | (refine wpList_load_row rfl 28 _ rfl _ rfl 28 _ (0, 0) _ oX4 Try.underlying28 rfl (by kernel_rfl) ?_)
    | (refine wpList_load_row rfl 28 _ rfl _ rfl 28 _ (0, 0) _ oY3 Try.underlying28 rfl (by kernel_rfl) ?_)
    | (refine wpList_load_row rfl 28 _ rfl _ rfl 28 _ (0, 0) _ (oX1.alloc (.map #[] 0)) Try.underlying28 rfl (by kernel_rfl) ?_)
    | (go_at_call 50; ((with_reducible refine (hadd2.out _ w3 (hR2.out _ b3) hM3).mono ?_); rintro e w4 ⟨rfl, hM4, hG4⟩; have oX4 := (hG4.block _ (Own.lt oX3) (fun e => by have := Option.some.inj e; omega)).trans oX3; have oR4 := (hG4.block _ (Own.lt oR3) (fun e => by have := Option.some.inj e; omega)).trans oR3; have b4 := b3.grown hG4 b3.size (fun j e => by cases e; exact b1.size)))
    | (go_at_call 50; ((with_reducible refine (hadd.out w1 ((hR1.out w1 b1).al _)).mono ?_); rintro e w3 ⟨rfl, hM3, hG3⟩; have e0 := oX1.lt; have e1 := oR1.lt; have e2 := oY1.lt; have oX3 := (hG3.block _ (by simp; omega) (fun e => by have := Option.some.inj e; omega)).trans (oX1.alloc (.map #[] 0)); have oY3 := (hG3.block _ (by simp; omega) (fun e => by have := Option.some.inj e; omega)).trans (oY1.alloc (.map #[] 0)); have oR3 := (hG3.block _ (by simp; omega) (fun e => by have := Option.some.inj e; omega)).trans (oR1.alloc (.map #[] 0)); have b3 := (b1.alloc b1.size (.map #[] 0)).grown hG3 (by have := b1.size; simp; omega) (fun j e => by cases e; exact b1.size)))
    | (go_at_call 51; ((with_reducible refine (heos.out _ _ hM4).mono ?_); rintro e w5 ⟨qt, mt, ct, rfl, hT5, hB5⟩; have oR5 := Own.below oR4 hB5 (Own.lt oR4); have b5 := b4.trans (hB5.mono b4.size)))
    | (refine wpList_store_own rfl 28 _ _ rfl _ _ rfl rfl 28 _ oR5 (by kernel_rfl) rfl (by simp [Value.oneCell']) ?_; intro w6 oR6 hN6))
  obtain ⟨rfl, hr⟩ := hT5.res
  have hr6 : Res w6 w.heap.size qt R := (hr.onl hN6 (by have := Own.lt oR4; omega)).weak b4.size
  refine bodyPost_ret (v := .tuple #[.agg #[.int .i64 p, .int .i64 c, .int .i64 n, .slice qt R.length ct], .int .i64 0]) (results_row_tmp rfl _ _ _ _ _ (0, 0) _ rfl oR6 Try.underlying28 rfl (by kernel_rfl) _ rfl) rfl ⟨⟨qt, ct, rfl, hr6⟩, b5.trans (hN6.below.mono (by omega))⟩
set_option maxRecDepth 100000 in
set_option maxHeartbeats 4000000 in
theorem addI_many (p c n p2 c2 n2 : Int) (a cap a2 cap2 : Nat) (xs ys : List Tm) (hts : ∀ t ∈ xs, t.2.1.length = 16 ∧ Bytes t.2.1) (hx : xs.length ≤ 1048576) (hts2 : ∀ t ∈ ys, t.2.1.length = 16 ∧ Bytes t.2.1) (hy : ys.length ≤ 1048576) (hk : prC p c n xs p2 c2 n2 ys = 0) (hx1 : elB p c n xs = true) (hy1 : elB p2 c2 n2 ys = true) (hpp : p = p2) (hlR : 140 < (smN p 1 ys xs).length) (w : World) (hR : RdT w (some ⟨a, 0, none⟩) xs) (hRy : RdT w (some ⟨a2, 0, none⟩) ys) :
    Calls Try.prog 17 #[.agg (ecl p c n (.slice (some ⟨a, 0, none⟩) xs.length cap)), .agg (ecl p2 c2 n2 (.slice (some ⟨a2, 0, none⟩) ys.length cap2))] w fun e w' => e = .returned (.tuple #[.agg (ecl 0 0 0 (.slice none 0 0)), .int .i64 3]) ∧ Below w.heap.size w w' := by
  subst hpp
  obtain ⟨hp, hc, hn, hl, hG0, hsz, hp2, hp97, hto⟩ := elB_good hx1 hts
  obtain ⟨_, hc2, hn2, hl2, hG2, hsz2, _, _, hto2⟩ := elB_good hy1 hts2
  have hpr := Lib.hid (fun w h1 h2 => prI_any p c n p c2 n2 (some ⟨a, 0, none⟩) (some ⟨a2, 0, none⟩) cap cap2 xs ys hts hx hts2 hy w h1 h2)
  rw [hk] at hpr
  have hadd := Lib.hid (fun W hR => addTs_any W.heap.size 0 [] p c n 1 (some ⟨a, 0, none⟩) cap xs (W.alloc (.map #[] 0)) hR (Smp.new W) (Good.nil p) hto hp2 hp97 (by omega) (by omega) (by omega))
  rw [smN_self hG0] at hadd
  have hadd2 := Lib.hid (fun b W hR hM => addTs_any b (0 + xs.length) xs p c2 n2 1 (some ⟨a2, 0, none⟩) cap2 ys W hR hM hG0 hto2 hp2 hp97 (by omega) (by omega) (by omega))
  have hG : GoodT p (smN p 1 ys xs) := smN_good (by omega) ys xs (fun t ht => (hto2 t ht).1) hG0
  have hln := smN_len p 1 ys xs
  obtain ⟨R, hRR⟩ : ∃ R, smN p 1 ys xs = R := ⟨_, rfl⟩
  rw [hRR] at hadd2 hG hln hlR
  obtain ⟨l, hll⟩ : ∃ l, xs.length = l := ⟨_, rfl⟩
  obtain ⟨m, hmm⟩ : ∃ m, ys.length = m := ⟨_, rfl⟩
  have heos := Lib.hid (fun b W hM => eos_many p c n (some ⟨a, 0, none⟩) l cap b (0 + l + m) p R W hM hG hlR (by omega))
  rw [hll] at hpr hadd hadd2 ⊢
  rw [hmm] at hpr hadd2 ⊢
  have hR1 := Lib.hid (fun w' (hb : Below w.heap.size w w') => hR.below hb)
  have hR2 := Lib.hid (fun w' (hb : Below w.heap.size w w') => hRy.below hb)
  have hmk : ∀ w : World, (Instr.makeMap 54 none).run Try.prog w = .ok (.map (some w.heap.size)) (w.alloc (.map #[] 0)) := fun w => rfl
  clear hts hx hts2 hy hk hx1 hy1 hR hRy hp hc hn hl hG0 hsz hto hc2 hn2 hl2 hG2 hsz2 hto2 hG hln hlR hRR hll hmm
  unfold ecl at *
  go_enter Try.func17, Try.ntmps17
  go_wp2_with (first
    | (go_at_call 49; (have wb := ((((Below.refl w.heap.size w).alloc (Nat.le_refl _) (.cells #[.int .i64 p, .int .i64 c, .int .i64 n, .slice (some ⟨a, 0, none⟩) l cap] 28)).alloc (by simp) (.cells #[.int .i64 p, .int .i64 c2, .int .i64 n2, .slice (some ⟨a2, 0, none⟩) m cap2] 28)).alloc (by simp; omega) (.cells #[.int .i64 0, .int .i64 0, .int .i64 0, .slice none 0 0] 28)); (with_reducible refine (hpr.out _ (hR1.out _ wb) (hR2.out _ wb)).mono ?_); rintro e w1 ⟨rfl, hB1⟩; have oX1 := (((Own.new w #[.int .i64 p, .int .i64 c, .int .i64 n, .slice (some ⟨a, 0, none⟩) l cap] 28).alloc (.cells #[.int .i64 p, .int .i64 c2, .int .i64 n2, .slice (some ⟨a2, 0, none⟩) m cap2] 28)).alloc (.cells #[.int .i64 0, .int .i64 0, .int .i64 0, .slice none 0 0] 28)).below hB1 (by simp; omega); have oY1 := ((Own.at (w.alloc (.cells #[.int .i64 p, .int .i64 c, .int .i64 n, .slice (some ⟨a, 0, none⟩) l cap] 28)) #[.int .i64 p, .int .i64 c2, .int .i64 n2, .slice (some ⟨a2, 0, none⟩) m cap2] 28 (by simp : _ = w.heap.size + 1)).alloc (.cells #[.int .i64 0, .int .i64 0, .int .i64 0, .slice none 0 0] 28)).below hB1 (by simp); have oR1 := (Own.at ((w.alloc (.cells #[.int .i64 p, .int .i64 c, .int .i64 n, .slice (some ⟨a, 0, none⟩) l cap] 28)).alloc (.cells #[.int .i64 p, .int .i64 c2, .int .i64 n2, .slice (some ⟨a2, 0, none⟩) m cap2] 28)) #[.int .i64 0, .int .i64 0, .int .i64 0, .slice none 0 0] 28 (by simp : _ = w.heap.size + 1 + 1)).below hB1 (by simp); have b1 : Below w.heap.size w w1 := wb.trans (hB1.mono (by simp; omega)); clear hB1 wb))
    | (refine wpList_load_row rfl 28 _ rfl _ rfl 28 _ (0, 0) _ (((Own.new w #[.int .i64 p, .int .i64 c, .int .i64 n, .slice (some ⟨a, 0, none⟩) l cap] 28).alloc (.cells #[.int .i64 p, .int .i64 c2, .int .i64 n2, .slice (some ⟨a2, 0, none⟩) m cap2] 28)).alloc (.cells #[.int .i64 0, .int .i64 0, .int .i64 0, .slice none 0 0] 28)) Try.underlying28 rfl (by kernel_rfl) ?_)
    | (refine wpList_load_row rfl 28 _ rfl _ rfl 28 _ (0, 0) _ ((Own.at (w.alloc (.cells #[.int .i64 p, .int .i64 c, .int .i64 n, .slice (some ⟨a, 0, none⟩) l cap] 28)) #[.int .i64 p, .int .i64 c2, .int .i64 n2, .slice (some ⟨a2, 0, none⟩) m cap2] 28 (by simp : _ = w.heap.size + 1)).alloc (.cells #[.int .i64 0, .int .i64 0, .int .i64 0, .slice none 0 0] 28)) Try.underlying28 rfl (by kernel_rfl) ?_)
    | (refine wpList_load_row rfl 28 _ rfl _ rfl 28 _ (0, 0) _ oX4 Try.underlying28 rfl (by kernel_rfl) ?_)
    | (refine wpList_load_row rfl 28 _ rfl _ rfl 28 _ (0, 0) _ oY3 Try.underlying28 rfl (by kernel_rfl) ?_)
    | (refine wpList_load_row rfl 28 _ rfl _ rfl 28 _ (0, 0) _ (oX1.alloc (.map #[] 0)) Try.underlying28 rfl (by kernel_rfl) ?_)
    | (go_at_call 50; ((with_reducible refine (hadd2.out _ w3 (hR2.out _ b3) hM3).mono ?_); rintro e w4 ⟨rfl, hM4, hG4⟩; have oX4 := (hG4.block _ (Own.lt oX3) (fun e => by have := Option.some.inj e; omega)).trans oX3; have oR4 := (hG4.block _ (Own.lt oR3) (fun e => by have := Option.some.inj e; omega)).trans oR3; have b4 := b3.grown hG4 b3.size (fun j e => by cases e; exact b1.size)))
    | (go_at_call 50; ((with_reducible refine (hadd.out w1 ((hR1.out w1 b1).al _)).mono ?_); rintro e w3 ⟨rfl, hM3, hG3⟩; have e0 := oX1.lt; have e1 := oR1.lt; have e2 := oY1.lt; have oX3 := (hG3.block _ (by simp; omega) (fun e => by have := Option.some.inj e; omega)).trans (oX1.alloc (.map #[] 0)); have oY3 := (hG3.block _ (by simp; omega) (fun e => by have := Option.some.inj e; omega)).trans (oY1.alloc (.map #[] 0)); have oR3 := (hG3.block _ (by simp; omega) (fun e => by have := Option.some.inj e; omega)).trans (oR1.alloc (.map #[] 0)); have b3 := (b1.alloc b1.size (.map #[] 0)).grown hG3 (by have := b1.size; simp; omega) (fun j e => by cases e; exact b1.size)))
    | (go_at_call 51; ((with_reducible refine (heos.out _ _ hM4).mono ?_); rintro e w5 ⟨rfl, hB5⟩; have oR5 := Own.below oR4 hB5 (Own.lt oR4); have b5 := b4.trans (hB5.mono b4.size)))
    | (refine wpList_store_own rfl 28 _ _ rfl _ _ rfl rfl 28 _ oR5 (by kernel_rfl) rfl (by simp [Value.oneCell']) ?_; intro w6 oR6 hN6))
  refine bodyPost_ret (v := .tuple #[.agg #[.int .i64 0, .int .i64 0, .int .i64 0, .slice none 0 0], .int .i64 3]) (results_row_tmp rfl _ _ _ _ _ (0, 0) _ rfl oR6 Try.underlying28 rfl (by kernel_rfl) _ rfl) rfl ⟨rfl, b5.trans (hN6.below.mono (by omega))⟩
set_option maxRecDepth 100000 in
set_option maxHeartbeats 4000000 in
theorem addS_ok (p c n p2 c2 n2 : Int) (a cap a2 cap2 : Nat) (xs ys : List Tm) (hts : ∀ t ∈ xs, t.2.1.length = 16 ∧ Bytes t.2.1) (hx : xs.length ≤ 1048576) (hts2 : ∀ t ∈ ys, t.2.1.length = 16 ∧ Bytes t.2.1) (hy : ys.length ≤ 1048576) (hk : prC p c n xs p2 c2 n2 ys = 0) (hx1 : elB p c n xs = true) (hy1 : elB p2 c2 n2 ys = true) (hpp : p = p2) (hlR : (smN p 1 ys xs).length ≤ 140) (w : World) (hR : RdT w (some ⟨a, 0, none⟩) xs) (hRy : RdT w (some ⟨a2, 0, none⟩) ys) :
    Calls Try.prog 15 #[.agg (ecl p c n (.slice (some ⟨a, 0, none⟩) xs.length cap)), .agg (ecl p2 c2 n2 (.slice (some ⟨a2, 0, none⟩) ys.length cap2))] w fun e w' => (∃ q cap, e = .returned (.tuple #[.agg (ecl p c n (.slice q (smN p 1 ys xs).length cap)), .int .i64 0]) ∧ Res w' w.heap.size q (smN p 1 ys xs)) ∧ Below w.heap.size w w' := by
  subst hpp
  obtain ⟨hp, hc, hn, hl, hG0, hsz, hp2, hp97, hto⟩ := elB_good hx1 hts
  obtain ⟨_, hc2, hn2, hl2, hG2, hsz2, _, _, hto2⟩ := elB_good hy1 hts2
  have hpr := Lib.hid (fun w h1 h2 => prS_any p c n p c2 n2 (some ⟨a, 0, none⟩) (some ⟨a2, 0, none⟩) cap cap2 xs ys hts hx hts2 hy (by omega) (by omega) w h1 h2)
  rw [hk] at hpr
  have hsu := Lib.hid (fun w h1 h2 => sumS_any p c n 1 p c2 n2 a a2 cap cap2 xs ys w h1 h2 hG0 hto2 hp2 hp97 (by omega) (by omega) (by omega) (by omega))
  obtain ⟨R, hRR⟩ : ∃ R, smN p 1 ys xs = R := ⟨_, rfl⟩
  rw [hRR] at hsu hlR ⊢
  obtain ⟨l, hll⟩ : ∃ l, xs.length = l := ⟨_, rfl⟩
  obtain ⟨m, hmm⟩ : ∃ m, ys.length = m := ⟨_, rfl⟩
  obtain ⟨r, hrr⟩ : ∃ r, R.length = r := ⟨_, rfl⟩
  rw [hll] at hpr hsu ⊢
  rw [hmm] at hpr hsu ⊢
  rw [hrr] at hsu hlR ⊢
  have htd := Lib.hid (fun g cp w => toldS_ok p c n (some ⟨g, 0, none⟩) r cp hlR w)
  have hR1 := Lib.hid (fun w' (hb : Below w.heap.size w w') => hR.below hb)
  have hR2 := Lib.hid (fun w' (hb : Below w.heap.size w w') => hRy.below hb)
  clear hts hx hts2 hy hk hx1 hy1 hR hRy hp hc hn hl hG0 hsz hto hc2 hn2 hl2 hG2 hsz2 hto2 hlR hRR hll hmm hrr
  unfold ecl at *
  go_enter Try.func15, Try.ntmps15
  go_wp2_with (first
    | (go_at_call 45; (have wb := ((((Below.refl w.heap.size w).alloc (Nat.le_refl _) (.cells #[.int .i64 p, .int .i64 c, .int .i64 n, .slice (some ⟨a, 0, none⟩) l cap] 28)).alloc (by simp) (.cells #[.int .i64 p, .int .i64 c2, .int .i64 n2, .slice (some ⟨a2, 0, none⟩) m cap2] 28)).alloc (by simp; omega) (.cells #[.int .i64 0, .int .i64 0, .int .i64 0, .slice none 0 0] 28)); (with_reducible refine (hpr.out _ (hR1.out _ wb) (hR2.out _ wb)).mono ?_); rintro e w1 ⟨rfl, hB1⟩; have oX1 := (((Own.new w #[.int .i64 p, .int .i64 c, .int .i64 n, .slice (some ⟨a, 0, none⟩) l cap] 28).alloc (.cells #[.int .i64 p, .int .i64 c2, .int .i64 n2, .slice (some ⟨a2, 0, none⟩) m cap2] 28)).alloc (.cells #[.int .i64 0, .int .i64 0, .int .i64 0, .slice none 0 0] 28)).below hB1 (by simp; omega); have oY1 := ((Own.at (w.alloc (.cells #[.int .i64 p, .int .i64 c, .int .i64 n, .slice (some ⟨a, 0, none⟩) l cap] 28)) #[.int .i64 p, .int .i64 c2, .int .i64 n2, .slice (some ⟨a2, 0, none⟩) m cap2] 28 (by simp : _ = w.heap.size + 1)).alloc (.cells #[.int .i64 0, .int .i64 0, .int .i64 0, .slice none 0 0] 28)).below hB1 (by simp); have oR1 := (Own.at ((w.alloc (.cells #[.int .i64 p, .int .i64 c, .int .i64 n, .slice (some ⟨a, 0, none⟩) l cap] 28)).alloc (.cells #[.int .i64 p, .int .i64 c2, .int .i64 n2, .slice (some ⟨a2, 0, none⟩) m cap2] 28)) #[.int .i64 0, .int .i64 0, .int .i64 0, .slice none 0 0] 28 (by simp : _ = w.heap.size + 1 + 1)).below hB1 (by simp); have b1 : Below w.heap.size w w1 := wb.trans (hB1.mono (by simp; omega)); clear hB1 wb))
    | (refine wpList_load_row rfl 28 _ rfl _ rfl 28 _ (0, 0) _ (((Own.new w #[.int .i64 p, .int .i64 c, .int .i64 n, .slice (some ⟨a, 0, none⟩) l cap] 28).alloc (.cells #[.int .i64 p, .int .i64 c2, .int .i64 n2, .slice (some ⟨a2, 0, none⟩) m cap2] 28)).alloc (.cells #[.int .i64 0, .int .i64 0, .int .i64 0, .slice none 0 0] 28)) Try.underlying28 rfl (by kernel_rfl) ?_)
    | (refine wpList_load_row rfl 28 _ rfl _ rfl 28 _ (0, 0) _ ((Own.at (w.alloc (.cells #[.int .i64 p, .int .i64 c, .int .i64 n, .slice (some ⟨a, 0, none⟩) l cap] 28)) #[.int .i64 p, .int .i64 c2, .int .i64 n2, .slice (some ⟨a2, 0, none⟩) m cap2] 28 (by simp : _ = w.heap.size + 1)).alloc (.cells #[.int .i64 0, .int .i64 0, .int .i64 0, .slice none 0 0] 28)) Try.underlying28 rfl (by kernel_rfl) ?_)
    | (refine wpList_load_row rfl 28 _ rfl _ rfl 28 _ (0, 0) _ oX1 Try.underlying28 rfl (by kernel_rfl) ?_)
    | (refine wpList_load_row rfl 28 _ rfl _ rfl 28 _ (0, 0) _ oY1 Try.underlying28 rfl (by kernel_rfl) ?_)
    | (go_at_call 47; ((with_reducible refine (hsu.out w1 (hR1.out _ b1) (hR2.out _ b1)).mono ?_); rintro e w4 ⟨⟨g4, cap4, rfl, hc4, hM4⟩, hB4⟩; have oR4 := oR1.below hB4 oR1.lt; have b4 := b1.trans (hB4.mono b1.size)))
    | (go_at_call 46; ((with_reducible refine (htd.out g4 cap4 w4).mono ?_); rintro e w5 ⟨rfl, hB5⟩; have oR5 := Own.below oR4 hB5 (Own.lt oR4); have b5 := b4.trans (hB5.mono b4.size); have hM5 := hM4.below hB5 hM4.lt))
    | (refine wpList_store_own rfl 28 _ _ rfl _ _ rfl rfl 28 _ (Own.new w5 _ _) (by kernel_rfl) rfl (by simp [Value.oneCell']) ?_; intro w6 oB6 hN6; have oR6 := (oR5.alloc _).only hN6 (by have := oR5.lt; omega); have hM6 := (hM5.alloc _).onl hN6 (by have := hM5.lt; omega); have b6 := (b5.alloc b5.size _).trans (hN6.below.mono b5.size))
    | (refine wpList_load_row rfl 28 _ rfl _ rfl 28 _ (0, 0) _ oB6 Try.underlying28 rfl (by kernel_rfl) ?_)
    | (refine wpList_store_own rfl 28 _ _ rfl _ _ rfl rfl 28 _ oR6 (by kernel_rfl) rfl (by simp [Value.oneCell']) ?_; intro w7 oR7 hN7))
  have hr7 : Res w7 w.heap.size (some ⟨g4, 0, none⟩) R := (Res.own ((hM6.weak b1.size).onl hN7 (by have := hM4.1; have := oR1.lt; omega)))
  refine bodyPost_ret (v := .tuple #[.agg #[.int .i64 p, .int .i64 c, .int .i64 n, .slice (some ⟨g4, 0, none⟩) r cap4], .int .i64 0]) (results_row_tmp rfl _ _ _ _ _ (0, 0) _ rfl oR7 Try.underlying28 rfl (by kernel_rfl) _ rfl) rfl ⟨⟨_, cap4, rfl, hr7⟩, b6.trans (hN7.below.mono (by omega))⟩
set_option maxRecDepth 100000 in
set_option maxHeartbeats 4000000 in
theorem addS_many (p c n p2 c2 n2 : Int) (a cap a2 cap2 : Nat) (xs ys : List Tm) (hts : ∀ t ∈ xs, t.2.1.length = 16 ∧ Bytes t.2.1) (hx : xs.length ≤ 1048576) (hts2 : ∀ t ∈ ys, t.2.1.length = 16 ∧ Bytes t.2.1) (hy : ys.length ≤ 1048576) (hk : prC p c n xs p2 c2 n2 ys = 0) (hx1 : elB p c n xs = true) (hy1 : elB p2 c2 n2 ys = true) (hpp : p = p2) (hlR : 140 < (smN p 1 ys xs).length) (w : World) (hR : RdT w (some ⟨a, 0, none⟩) xs) (hRy : RdT w (some ⟨a2, 0, none⟩) ys) :
    Calls Try.prog 15 #[.agg (ecl p c n (.slice (some ⟨a, 0, none⟩) xs.length cap)), .agg (ecl p2 c2 n2 (.slice (some ⟨a2, 0, none⟩) ys.length cap2))] w fun e w' => e = .returned (.tuple #[.agg (ecl 0 0 0 (.slice none 0 0)), .int .i64 3]) ∧ Below w.heap.size w w' := by
  subst hpp
  obtain ⟨hp, hc, hn, hl, hG0, hsz, hp2, hp97, hto⟩ := elB_good hx1 hts
  obtain ⟨_, hc2, hn2, hl2, hG2, hsz2, _, _, hto2⟩ := elB_good hy1 hts2
  have hpr := Lib.hid (fun w h1 h2 => prS_any p c n p c2 n2 (some ⟨a, 0, none⟩) (some ⟨a2, 0, none⟩) cap cap2 xs ys hts hx hts2 hy (by omega) (by omega) w h1 h2)
  rw [hk] at hpr
  have hsu := Lib.hid (fun w h1 h2 => sumS_any p c n 1 p c2 n2 a a2 cap cap2 xs ys w h1 h2 hG0 hto2 hp2 hp97 (by omega) (by omega) (by omega) (by omega))
  obtain ⟨R, hRR⟩ : ∃ R, smN p 1 ys xs = R := ⟨_, rfl⟩
  rw [hRR] at hsu hlR
  obtain ⟨l, hll⟩ : ∃ l, xs.length = l := ⟨_, rfl⟩
  obtain ⟨m, hmm⟩ : ∃ m, ys.length = m := ⟨_, rfl⟩
  obtain ⟨r, hrr⟩ : ∃ r, R.length = r := ⟨_, rfl⟩
  rw [hll] at hpr hsu ⊢
  rw [hmm] at hpr hsu ⊢
  rw [hrr] at hsu hlR
  have htd := Lib.hid (fun g cp w => toldS_big p c n (some ⟨g, 0, none⟩) r cp hlR w)
  have hR1 := Lib.hid (fun w' (hb : Below w.heap.size w w') => hR.below hb)
  have hR2 := Lib.hid (fun w' (hb : Below w.heap.size w w') => hRy.below hb)
  clear hts hx hts2 hy hk hx1 hy1 hR hRy hp hc hn hl hG0 hsz hto hc2 hn2 hl2 hG2 hsz2 hto2 hlR hRR hll hmm hrr
  unfold ecl at *
  go_enter Try.func15, Try.ntmps15
  go_wp2_with (first
    | (go_at_call 45; (have wb := ((((Below.refl w.heap.size w).alloc (Nat.le_refl _) (.cells #[.int .i64 p, .int .i64 c, .int .i64 n, .slice (some ⟨a, 0, none⟩) l cap] 28)).alloc (by simp) (.cells #[.int .i64 p, .int .i64 c2, .int .i64 n2, .slice (some ⟨a2, 0, none⟩) m cap2] 28)).alloc (by simp; omega) (.cells #[.int .i64 0, .int .i64 0, .int .i64 0, .slice none 0 0] 28)); (with_reducible refine (hpr.out _ (hR1.out _ wb) (hR2.out _ wb)).mono ?_); rintro e w1 ⟨rfl, hB1⟩; have oX1 := (((Own.new w #[.int .i64 p, .int .i64 c, .int .i64 n, .slice (some ⟨a, 0, none⟩) l cap] 28).alloc (.cells #[.int .i64 p, .int .i64 c2, .int .i64 n2, .slice (some ⟨a2, 0, none⟩) m cap2] 28)).alloc (.cells #[.int .i64 0, .int .i64 0, .int .i64 0, .slice none 0 0] 28)).below hB1 (by simp; omega); have oY1 := ((Own.at (w.alloc (.cells #[.int .i64 p, .int .i64 c, .int .i64 n, .slice (some ⟨a, 0, none⟩) l cap] 28)) #[.int .i64 p, .int .i64 c2, .int .i64 n2, .slice (some ⟨a2, 0, none⟩) m cap2] 28 (by simp : _ = w.heap.size + 1)).alloc (.cells #[.int .i64 0, .int .i64 0, .int .i64 0, .slice none 0 0] 28)).below hB1 (by simp); have oR1 := (Own.at ((w.alloc (.cells #[.int .i64 p, .int .i64 c, .int .i64 n, .slice (some ⟨a, 0, none⟩) l cap] 28)).alloc (.cells #[.int .i64 p, .int .i64 c2, .int .i64 n2, .slice (some ⟨a2, 0, none⟩) m cap2] 28)) #[.int .i64 0, .int .i64 0, .int .i64 0, .slice none 0 0] 28 (by simp : _ = w.heap.size + 1 + 1)).below hB1 (by simp); have b1 : Below w.heap.size w w1 := wb.trans (hB1.mono (by simp; omega)); clear hB1 wb))
    | (refine wpList_load_row rfl 28 _ rfl _ rfl 28 _ (0, 0) _ (((Own.new w #[.int .i64 p, .int .i64 c, .int .i64 n, .slice (some ⟨a, 0, none⟩) l cap] 28).alloc (.cells #[.int .i64 p, .int .i64 c2, .int .i64 n2, .slice (some ⟨a2, 0, none⟩) m cap2] 28)).alloc (.cells #[.int .i64 0, .int .i64 0, .int .i64 0, .slice none 0 0] 28)) Try.underlying28 rfl (by kernel_rfl) ?_)
    | (refine wpList_load_row rfl 28 _ rfl _ rfl 28 _ (0, 0) _ ((Own.at (w.alloc (.cells #[.int .i64 p, .int .i64 c, .int .i64 n, .slice (some ⟨a, 0, none⟩) l cap] 28)) #[.int .i64 p, .int .i64 c2, .int .i64 n2, .slice (some ⟨a2, 0, none⟩) m cap2] 28 (by simp : _ = w.heap.size + 1)).alloc (.cells #[.int .i64 0, .int .i64 0, .int .i64 0, .slice none 0 0] 28)) Try.underlying28 rfl (by kernel_rfl) ?_)
    | (refine wpList_load_row rfl 28 _ rfl _ rfl 28 _ (0, 0) _ oX1 Try.underlying28 rfl (by kernel_rfl) ?_)
    | (refine wpList_load_row rfl 28 _ rfl _ rfl 28 _ (0, 0) _ oY1 Try.underlying28 rfl (by kernel_rfl) ?_)
    | (go_at_call 47; ((with_reducible refine (hsu.out w1 (hR1.out _ b1) (hR2.out _ b1)).mono ?_); rintro e w4 ⟨⟨g4, cap4, rfl, hc4, hM4⟩, hB4⟩; have oR4 := oR1.below hB4 oR1.lt; have b4 := b1.trans (hB4.mono b1.size)))
    | (go_at_call 46; ((with_reducible refine (htd.out g4 cap4 w4).mono ?_); rintro e w5 ⟨rfl, hB5⟩; have oR5 := Own.below oR4 hB5 (Own.lt oR4); have b5 := b4.trans (hB5.mono b4.size); have hM5 := hM4.below hB5 hM4.lt))
    | (refine wpList_store_own rfl 28 _ _ rfl _ _ rfl rfl 28 _ (Own.new w5 _ _) (by kernel_rfl) rfl (by simp [Value.oneCell']) ?_; intro w6 oB6 hN6; have oR6 := (oR5.alloc _).only hN6 (by have := oR5.lt; omega); have hM6 := (hM5.alloc _).onl hN6 (by have := hM5.lt; omega); have b6 := (b5.alloc b5.size _).trans (hN6.below.mono b5.size))
    | (refine wpList_load_row rfl 28 _ rfl _ rfl 28 _ (0, 0) _ oB6 Try.underlying28 rfl (by kernel_rfl) ?_)
    | (refine wpList_store_own rfl 28 _ _ rfl _ _ rfl rfl 28 _ oR6 (by kernel_rfl) rfl (by simp [Value.oneCell']) ?_; intro w7 oR7 hN7))
  refine bodyPost_ret (v := .tuple #[.agg #[.int .i64 0, .int .i64 0, .int .i64 0, .slice none 0 0], .int .i64 3]) (results_row_tmp rfl _ _ _ _ _ (0, 0) _ rfl oR7 Try.underlying28 rfl (by kernel_rfl) _ rfl) rfl ⟨rfl, b6.trans (hN7.below.mono (by omega))⟩
end Go.Proofs.Ytpmcngmphkegnaa
