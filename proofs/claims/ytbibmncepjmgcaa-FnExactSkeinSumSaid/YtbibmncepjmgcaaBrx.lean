/- BraidElement: program, model and law. -/
import Derived.Test.YtbibmncepjmgcaaBrl
import Derived.Test.YtbibmncepjmgcaaBrf
import Derived.Test.YtbibmncepjmgcaaBrs
import Derived.Test.YtbibmncepjmgcaaLoopV
namespace Go.Proofs.Ytbibmncepjmgcaa
open Go.RowKit Go.Lib
set_option linter.unusedVariables false
set_option linter.unusedSimpArgs false
theorem givS_any (p a n : Int) (q : Option Addr) (cap : Nat) (xs : List Int) (w : World) (hx : xs.length ≤ 1048576) (hp : -9223372036854775808 ≤ p ∧ p ≤ 9223372036854775807) (hR : Rd w q xs) :
    Calls Try.prog 42 #[.int .i64 p, .int .i64 a, .int .i64 n, .slice q xs.length cap] w fun e w' => e = .returned (.bool (baseB p a && brdB n xs)) ∧ w' = w := by
  have h1 := Lib.hid (fun w => baseS_any p a w hp)
  have h2 := Lib.hid (fun w hR => isBraidS_any n q cap xs w hx hR)
  have hR' := Lib.hid hR
  cases hb : baseB p a with
  | false =>
    rw [hb] at h1
    rw [Bool.false_and]
    clear hb h2 hR hp hx
    go_enter Try.func42, Try.ntmps42
    go_wp2_with (first
      | (go_at_call 83; ((with_reducible refine (h1.out _).mono ?_); rintro e w1 ⟨rfl, rfl⟩)))
    go_ret
    exact ⟨rfl, rfl⟩
  | true =>
    rw [hb] at h1
    rw [Bool.true_and]
    obtain ⟨v, hv⟩ : ∃ v, brdB n xs = v := ⟨_, rfl⟩
    rw [hv] at h2 ⊢
    clear hb hR hp hx hv
    go_enter Try.func42, Try.ntmps42
    go_wp2_with (first
      | (go_at_call 83; ((with_reducible refine (h1.out _).mono ?_); rintro e w1 ⟨rfl, rfl⟩))
      | (go_at_call 63; ((with_reducible refine (h2.out _ hR'.out).mono ?_); rintro e w2 ⟨rfl, rfl⟩)))
    go_ret
    exact ⟨rfl, rfl⟩
/-- The answer. -/
def BrA (p a n : Int) (xs : List Int) (L : List Tm) : Prop := L = brN p (lvN p a) n a (rcp p a) xs
set_option maxRecDepth 100000 in
set_option maxHeartbeats 4000000 in
theorem breI_ok (p a n : Int) (g cap : Nat) (xs : List Int) (hx : xs.length ≤ 1048576) (h1 : baseB p a = true) (h2 : brdB n xs = true) (w : World) (hR : Rd w (some ⟨g, 0, none⟩) xs) :
    Calls Try.prog 16 #[.int .i64 p, .int .i64 a, .int .i64 n, .slice (some ⟨g, 0, none⟩) xs.length cap] w fun e w' => (∃ q cap, e = .returned (.tuple #[.agg (ecl p (lvN p a) n (.slice q (brN p (lvN p a) n a (rcp p a) xs).length cap)), .int .i64 0]) ∧ Res w' w.heap.size q (brN p (lvN p a) n a (rcp p a) xs)) ∧ Below w.heap.size w w' := by
  obtain ⟨hpr, hp, hp2, a1, a2⟩ := baseB_t h1
  obtain ⟨⟨n2, n6, hxl⟩, hxs⟩ := brdB_t h2
  have hrb := rcp_pos p a hpr a1 a2
  have hc0 : 0 ≤ lvN p a := Int.emod_nonneg _ (by omega)
  have hc1 : lvN p a < p := Int.emod_lt_of_pos _ (by omega)
  have hb1 := Lib.hid (fun w => baseI_any p a w)
  rw [h1] at hb1
  have hb2 := Lib.hid (fun w hR => isBraidI_any n (some ⟨g, 0, none⟩) cap xs w hx hR)
  rw [h2] at hb2
  have hsk := Lib.hid (fun w => skeinI_any p a n w h1)
  have hel := Lib.hid (fun w hR => beoI_any a (rcp p a) p (lvN p a) n hp hp2 hc0 hc1 n2 n6 (by omega) (by omega) (some ⟨g, 0, none⟩) cap xs hxl hxs w hR)
  have hRx := Lib.hid (fun w' (hb : Below w.heap.size w w') => hR.below hb)
  obtain ⟨c, hc⟩ : ∃ c, lvN p a = c := ⟨_, rfl⟩
  obtain ⟨b, hb⟩ : ∃ b, rcp p a = b := ⟨_, rfl⟩
  unfold skc at hsk
  unfold skv at hel
  rw [hc, hb] at hsk hel ⊢
  obtain ⟨R, hRR⟩ : ∃ R, brN p c n a b xs = R := ⟨_, rfl⟩
  rw [hRR] at hel ⊢
  obtain ⟨l, hl⟩ : ∃ l, R.length = l := ⟨_, rfl⟩
  rw [hl] at hel ⊢
  obtain ⟨m, hm⟩ : ∃ m, xs.length = m := ⟨_, rfl⟩
  rw [hm] at hel hb2 ⊢
  clear h1 h2 hpr hxl hxs hrb hc0 hc1 hR hc hb hRR hl hm hx
  unfold ecl at *
  go_enter Try.func16, Try.ntmps16
  go_wp2_with (first
    | (go_at_call 44; ((with_reducible refine (hb1.out _).mono ?_); rintro e w1 ⟨rfl, rfl⟩))
    | (go_at_call 45; ((with_reducible refine (hb2.out _ (hRx.out _ ((Below.refl w.heap.size w).alloc (Nat.le_refl _) _))).mono ?_); rintro e w2 ⟨rfl, rfl⟩))
    | (go_at_call 46; ((with_reducible refine (hsk.out _).mono ?_); rintro e w3 ⟨rfl, hB3⟩; have oR3 := (Own.new w #[.int .i64 0, .int .i64 0, .int .i64 0, .slice none 0 0] 30).below hB3 (by simp); have b3 : Below w.heap.size w w3 := ((Below.refl w.heap.size w).alloc (Nat.le_refl _) _).trans (hB3.mono (by simp))))
    | (go_at_call 47; ((with_reducible refine (hel.out w3 (hRx.out _ b3)).mono ?_); rintro e w4 ⟨⟨q, cp, rfl, hr⟩, hB4⟩; have oR4 := oR3.below hB4 oR3.lt; have b4 := b3.trans (hB4.mono b3.size); have r4 := hr.weak b3.size))
    | (refine wpList_store_own rfl 30 _ _ rfl _ _ rfl rfl 30 _ oR4 (by kernel_rfl) rfl (by simp [Value.oneCell']) ?_; intro w5 oR5 hN5))
  refine bodyPost_ret (v := .tuple #[.agg #[.int .i64 p, .int .i64 c, .int .i64 n, .slice q l cp], .int .i64 0]) (results_row_tmp rfl _ _ _ _ _ (0, 0) _ rfl oR5 Try.underlying30 rfl (by kernel_rfl) _ rfl) rfl ⟨⟨q, cp, rfl, Res.nl2 r4 hN5 oR4⟩, b4.trans (hN5.below.mono (Nat.le_refl _))⟩
set_option maxRecDepth 100000 in
set_option maxHeartbeats 4000000 in
theorem breI_bad (p a n : Int) (g cap : Nat) (xs : List Int) (hx : xs.length ≤ 1048576) (h : (baseB p a && brdB n xs) = false) (w : World) (hR : Rd w (some ⟨g, 0, none⟩) xs) :
    Calls Try.prog 16 #[.int .i64 p, .int .i64 a, .int .i64 n, .slice (some ⟨g, 0, none⟩) xs.length cap] w fun e w' => e = .returned (.tuple #[.agg (ecl 0 0 0 (.slice none 0 0)), .int .i64 2]) ∧ Below w.heap.size w w' := by
  have hb1 := Lib.hid (fun w => baseI_any p a w)
  have hb2 := Lib.hid (fun w hR => isBraidI_any n (some ⟨g, 0, none⟩) cap xs w hx hR)
  have hRx := Lib.hid (fun w' (hb : Below w.heap.size w w') => hR.below hb)
  have b00 := built00
  obtain ⟨m, hm⟩ : ∃ m, xs.length = m := ⟨_, rfl⟩
  rw [hm] at hb2 ⊢
  cases hb : baseB p a with
  | false =>
    rw [hb] at hb1
    clear hb h hR hx hm hb2
    unfold ecl at *
    go_enter Try.func16, Try.ntmps16
    go_wp2_with (first
      | (go_at_call 44; ((with_reducible refine (hb1.out _).mono ?_); rintro e w1 ⟨rfl, rfl⟩))
      | (refine wpList_store_own rfl 30 _ _ rfl _ _ rfl rfl 30 _ (Own.new w _ _) (by kernel_rfl) rfl (by simp [Value.oneCell']) ?_; intro w5 oR5 hN5))
    refine bodyPost_ret (v := .tuple #[.agg #[.int .i64 0, .int .i64 0, .int .i64 0, .slice none 0 0], .int .i64 2]) (results_row_tmp rfl _ _ _ _ _ (0, 0) _ rfl oR5 Try.underlying30 rfl (by kernel_rfl) _ rfl) rfl ⟨rfl, ((Below.refl w.heap.size w).alloc (Nat.le_refl _) _).trans (hN5.below.mono (Nat.le_refl _))⟩
  | true =>
    rw [hb] at hb1 h
    rw [Bool.true_and] at h
    rw [h] at hb2
    clear hb h hR hx hm
    unfold ecl at *
    go_enter Try.func16, Try.ntmps16
    go_wp2_with (first
      | (go_at_call 44; ((with_reducible refine (hb1.out _).mono ?_); rintro e w1 ⟨rfl, rfl⟩))
      | (go_at_call 45; ((with_reducible refine (hb2.out _ (hRx.out _ ((Below.refl w.heap.size w).alloc (Nat.le_refl _) _))).mono ?_); rintro e w2 ⟨rfl, rfl⟩))
      | (refine wpList_store_own rfl 30 _ _ rfl _ _ rfl rfl 30 _ (Own.new w _ _) (by kernel_rfl) rfl (by simp [Value.oneCell']) ?_; intro w5 oR5 hN5))
    refine bodyPost_ret (v := .tuple #[.agg #[.int .i64 0, .int .i64 0, .int .i64 0, .slice none 0 0], .int .i64 2]) (results_row_tmp rfl _ _ _ _ _ (0, 0) _ rfl oR5 Try.underlying30 rfl (by kernel_rfl) _ rfl) rfl ⟨rfl, ((Below.refl w.heap.size w).alloc (Nat.le_refl _) _).trans (hN5.below.mono (Nat.le_refl _))⟩
set_option maxRecDepth 100000 in
set_option maxHeartbeats 4000000 in
theorem breS_ok (p a n : Int) (hpw : -9223372036854775808 ≤ p ∧ p ≤ 9223372036854775807) (g cap : Nat) (xs : List Int) (hx : xs.length ≤ 1048576) (h1 : baseB p a = true) (h2 : brdB n xs = true) (w : World) (hR : Rd w (some ⟨g, 0, none⟩) xs) :
    Calls Try.prog 14 #[.int .i64 p, .int .i64 a, .int .i64 n, .slice (some ⟨g, 0, none⟩) xs.length cap] w fun e w' => (∃ q cap, e = .returned (.tuple #[.agg (ecl p (lvN p a) n (.slice q (brN p (lvN p a) n a (rcp p a) xs).length cap)), .int .i64 0]) ∧ Res w' w.heap.size q (brN p (lvN p a) n a (rcp p a) xs)) ∧ Below w.heap.size w w' := by
  obtain ⟨⟨n2, n6, hxl⟩, hxs⟩ := brdB_t h2
  have hg := Lib.hid (fun w hR => givS_any p a n (some ⟨g, 0, none⟩) cap xs w hx hpw hR)
  rw [h1, h2] at hg
  have hel := Lib.hid (fun w hR => beoS_any p a n h1 n2 n6 (some ⟨g, 0, none⟩) cap xs hxl hxs w hR)
  have hRx := Lib.hid (fun w' (hb : Below w.heap.size w w') => hR.below hb)
  obtain ⟨c, hc⟩ : ∃ c, lvN p a = c := ⟨_, rfl⟩
  obtain ⟨b, hb⟩ : ∃ b, rcp p a = b := ⟨_, rfl⟩
  rw [hc, hb] at hel ⊢
  obtain ⟨R, hRR⟩ : ∃ R, brN p c n a b xs = R := ⟨_, rfl⟩
  rw [hRR] at hel ⊢
  obtain ⟨l, hl⟩ : ∃ l, R.length = l := ⟨_, rfl⟩
  rw [hl] at hel ⊢
  obtain ⟨m, hm⟩ : ∃ m, xs.length = m := ⟨_, rfl⟩
  rw [hm] at hel hg ⊢
  clear h1 h2 hxl hxs hR hc hb hRR hl hm hx hpw
  unfold ecl at *
  go_enter Try.func14, Try.ntmps14
  go_wp2_with (first
    | (go_at_call 42; ((with_reducible refine (hg.out _ (hRx.out _ ((Below.refl w.heap.size w).alloc (Nat.le_refl _) _))).mono ?_); rintro e w2 ⟨rfl, rfl⟩))
    | (go_at_call 43; ((with_reducible refine (hel.out _ (hRx.out _ ((Below.refl w.heap.size w).alloc (Nat.le_refl _) _))).mono ?_); rintro e w4 ⟨⟨g5, cp, rfl, hr⟩, hB4⟩; have oR4 := (Own.new w #[.int .i64 0, .int .i64 0, .int .i64 0, .slice none 0 0] 30).below hB4 (by simp); have b4 : Below w.heap.size w w4 := ((Below.refl w.heap.size w).alloc (Nat.le_refl _) _).trans (hB4.mono (by simp)); have r4 := hr.weak (B' := w.heap.size) (by simp)))
    | (refine wpList_store_own rfl 30 _ _ rfl _ _ rfl rfl 30 _ oR4 (by kernel_rfl) rfl (by simp [Value.oneCell']) ?_; intro w5 oR5 hN5))
  refine bodyPost_ret (v := .tuple #[.agg #[.int .i64 p, .int .i64 c, .int .i64 n, .slice (some ⟨g5, 0, none⟩) l cp], .int .i64 0]) (results_row_tmp rfl _ _ _ _ _ (0, 0) _ rfl oR5 Try.underlying30 rfl (by kernel_rfl) _ rfl) rfl ⟨⟨some ⟨g5, 0, none⟩, cp, rfl, Res.nl2 (Res.own r4) hN5 oR4⟩, b4.trans (hN5.below.mono (Nat.le_refl _))⟩
set_option maxRecDepth 100000 in
set_option maxHeartbeats 4000000 in
theorem breS_bad (p a n : Int) (hpw : -9223372036854775808 ≤ p ∧ p ≤ 9223372036854775807) (g cap : Nat) (xs : List Int) (hx : xs.length ≤ 1048576) (h : (baseB p a && brdB n xs) = false) (w : World) (hR : Rd w (some ⟨g, 0, none⟩) xs) :
    Calls Try.prog 14 #[.int .i64 p, .int .i64 a, .int .i64 n, .slice (some ⟨g, 0, none⟩) xs.length cap] w fun e w' => e = .returned (.tuple #[.agg (ecl 0 0 0 (.slice none 0 0)), .int .i64 2]) ∧ Below w.heap.size w w' := by
  have hg := Lib.hid (fun w hR => givS_any p a n (some ⟨g, 0, none⟩) cap xs w hx hpw hR)
  rw [h] at hg
  have hRx := Lib.hid (fun w' (hb : Below w.heap.size w w') => hR.below hb)
  have b00 := built00
  obtain ⟨m, hm⟩ : ∃ m, xs.length = m := ⟨_, rfl⟩
  rw [hm] at hg ⊢
  clear h hR hx hm hpw
  unfold ecl at *
  go_enter Try.func14, Try.ntmps14
  go_wp2_with (first
    | (go_at_call 42; ((with_reducible refine (hg.out _ (hRx.out _ ((Below.refl w.heap.size w).alloc (Nat.le_refl _) _))).mono ?_); rintro e w2 ⟨rfl, rfl⟩))
    | (refine wpList_store_own rfl 30 _ _ rfl _ _ rfl rfl 30 _ (Own.new w _ _) (by kernel_rfl) rfl (by simp [Value.oneCell']) ?_; intro w5 oR5 hN5))
  refine bodyPost_ret (v := .tuple #[.agg #[.int .i64 0, .int .i64 0, .int .i64 0, .slice none 0 0], .int .i64 2]) (results_row_tmp rfl _ _ _ _ _ (0, 0) _ rfl oR5 Try.underlying30 rfl (by kernel_rfl) _ rfl) rfl ⟨rfl, ((Below.refl w.heap.size w).alloc (Nat.le_refl _) _).trans (hN5.below.mono (Nat.le_refl _))⟩
theorem bre_law (p a n : Int) (q0 : Option Addr) (cap : Nat) (xs : List Int) (hpw : -9223372036854775808 ≤ p ∧ p ≤ 9223372036854775807) (w : World) (hm : xs.length ≤ maxLen) (hR : Rd w q0 xs) :
    Calls Try.prog 4 #[.int .i64 p, .int .i64 a, .int .i64 n, .slice q0 xs.length cap] w fun e w' => e = .returned (.bool true) ∧ Below w.heap.size w w' := by
  by_cases h : xs.length ≤ 1048576
  · cases hb : baseB p a && brdB n xs with
    | false =>
      refine brl_walk p a n q0 cap xs w h hR 0 0 0 2 [] (fun t ht => by cases ht) (by simp) (fun w g cap hR => res0 (breS_bad p a n hpw g cap xs h hb w hR)) (fun w g cap hR => res0 (breI_bad p a n g cap xs h hb w hR))
    | true =>
      rw [Bool.and_eq_true] at hb
      obtain ⟨h1, h2⟩ := hb
      obtain ⟨hpr, hp, hp2, a1, a2⟩ := baseB_t h1
      obtain ⟨⟨n2, n6, hxl⟩, hxs⟩ := brdB_t h2
      have hok := brN_ok (c := lvN p a) (a := a) (b := rcp p a) hp hp2 n2 n6 xs hxs xs.length (Nat.le_refl _)
      rw [List.take_length] at hok
      exact brl_walk p a n q0 cap xs w h hR p (lvN p a) n 0 _ (good16 hok.1) (by have := hok.2.2; omega) (fun w g cap hR => breS_ok p a n hpw g cap xs h h1 h2 w hR) (fun w g cap hR => breI_ok p a n g cap xs h h1 h2 w hR)
  · exact brl_big p a n q0 cap xs.length w hm (by omega)
end Go.Proofs.Ytbibmncepjmgcaa
