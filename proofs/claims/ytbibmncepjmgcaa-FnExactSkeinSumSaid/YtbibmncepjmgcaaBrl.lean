/- BraidElement: the walk of the law. (Written by genbrl.py.) -/
import Derived.Test.YtbibmncepjmgcaaKh
import Derived.Test.YtbibmncepjmgcaaBrd
import Derived.Test.YtbibmncepjmgcaaKl
import Derived.Test.YtbibmncepjmgcaaKd
import Derived.Test.YtbibmncepjmgcaaScl
namespace Go.Proofs.Ytbibmncepjmgcaa
open Go.RowKit Go.Lib
set_option linter.unusedVariables false
set_option linter.unusedSimpArgs false
theorem Res.nli {w w' : World} {B b : Nat} {q : Option Addr} {L : List Tm} {cs : Array Value} (h : Res w B q L) (hN : Only b w w') (hO : Own w b cs 2) : Res w' B q L := by
  rcases h with h | ⟨g, rfl, h0, sp, ho⟩
  · exact .inl h
  · exact .inr ⟨g, rfl, h0, sp, ho.only hN (ho.neTz hO (by decide))⟩
set_option maxRecDepth 100000 in
set_option maxHeartbeats 1000000 in
theorem mark_only (g : Nat) (cap : Nat) (xs : List Int) (hx : xs.length ≤ 1048576) (k : Int) (k0 : 0 ≤ k) (k2 : k ≤ 4194304) (w : World) (ho : Own w g (icells xs) 2) :
    Calls Try.prog 18 #[.slice (some ⟨g, 0, none⟩) xs.length cap, .int .i64 k] w fun e w' => e = .returned (.int .i64 (k + xs.length)) ∧ Only g w w' := by
  obtain ⟨m, hm⟩ : ∃ m, xs.length = m := ⟨_, rfl⟩
  have hN := Lib.hid hm
  have h0 := Lib.hid (show icells xs = scells (mkI k xs 0) [] by simp [mkI, marksI, icells, scells])
  rw [hm] at hx ⊢
  clear hm
  go_enter Try.func18, Try.ntmps18
  go_wp2
  go_loopw [1, 5] (fun q i wr => ∃ j : Nat, j ≤ m ∧ i = .int .i64 j ∧ q = .int .i64 (k + j) ∧ Own wr g (scells (mkI k xs j) []) 2 ∧ Only g w wr) (fun _ i _ => ((m : Int) - intOf i).toNat)
  case atStart => exact ⟨0, by omega, rfl, by simp, by rw [← h0.out]; exact ho, Only.refl _ _⟩
  case round =>
    obtain ⟨j, hj, rfl, rfl, hO, hBB⟩ := hrel
    have hll := mkI_len k xs j (by rw [hN.out]; exact hj)
    by_cases hlt : j < m
    · have hks : j < xs.length := by have := hN.out; omega
      have c2 := hO.cell j
      rw [scells_get _ _ _ (by omega)] at c2
      have f2 := hO.free j
      have hO2 := hO.set j (.int .i64 (k + j))
      rw [scells_set _ _ _ _ (by omega), mkI_set _ _ _ hks] at hO2
      have hB2 := hBB.trans (Only.set g j _ (.int .i64 (k + j)))
      have K1 := Lib.hid hO2
      have i1 : (j : Int) < (m : Int) := by omega
      clear hO2 hll
      go_wp2
      go_roundw
      case rel => exact ⟨j + 1, by omega, by go_num, by go_num, K1.out, hB2⟩
      case measure => simp [intOf]; omega
    · have hk2 : j = m := by omega
      subst hk2
      clear hll
      go_wp2
      go_ret
      exact ⟨rfl, hBB⟩
set_option maxRecDepth 100000 in
set_option maxHeartbeats 16000000 in
theorem brl_walk (p a n : Int) (q0 : Option Addr) (cap : Nat) (xs : List Int) (w : World) (hx : xs.length ≤ 1048576) (hR : Rd w q0 xs) (p' c' n' code : Int) (L : List Tm) (h16 : L16 L) (hL : L.length ≤ 1048576)
    (hS0 : ∀ w (g cap : Nat), Rd w (some ⟨g, 0, none⟩) xs → Calls Try.prog 14 #[.int .i64 p, .int .i64 a, .int .i64 n, .slice (some ⟨g, 0, none⟩) xs.length cap] w fun e w' => (∃ q cap, e = .returned (.tuple #[.agg (ecl p' c' n' (.slice q L.length cap)), .int .i64 code]) ∧ Res w' w.heap.size q L) ∧ Below w.heap.size w w')
    (hI0 : ∀ w (g cap : Nat), Rd w (some ⟨g, 0, none⟩) xs → Calls Try.prog 16 #[.int .i64 p, .int .i64 a, .int .i64 n, .slice (some ⟨g, 0, none⟩) xs.length cap] w fun e w' => (∃ q cap, e = .returned (.tuple #[.agg (ecl p' c' n' (.slice q L.length cap)), .int .i64 code]) ∧ Res w' w.heap.size q L) ∧ Below w.heap.size w w') :
    Calls Try.prog 4 #[.int .i64 p, .int .i64 a, .int .i64 n, .slice q0 xs.length cap] w fun e w' => e = .returned (.bool true) ∧ Below w.heap.size w w' := by
  have hS := Lib.hid (fun w g h => hS0 w g xs.length h)
  have hI := Lib.hid (fun w g h => hI0 w g xs.length h)
  have hc := Lib.hid (fun w hR => toI_any q0 cap xs hx w hR)
  have he0 := Lib.hid (fun p q cap cap' w hR hQ => eqI_same p q cap cap' xs (by omega) w hR hQ)
  have hk := Lib.hid (fun g cap w ho => mark_only g cap xs hx 1 (by omega) (by omega) w ho)
  have heq := Lib.hid (fun a b cap cap' w hA hB => eqE_any p' c' n' a b cap cap' L h16 hL w hA hB)
  have hmk := Lib.hid (fun q cap B w h => markE_res p' c' n' q cap 1 L B w hL h16 (by omega) h)
  have hhd := Lib.hid (fun q cap w h => heldE_res p' c' n' q cap 1 L w hL (by omega) h)
  have hrd := Lib.hid (fun w B q (h : Res w B q L) => h.rd h16)
  have hR' := Lib.hid hR
  obtain ⟨l, hll⟩ : ∃ l, L.length = l := ⟨_, rfl⟩
  rw [hll] at hS hI heq hmk hhd hL
  obtain ⟨m, hmm⟩ : ∃ m, xs.length = m := ⟨_, rfl⟩
  rw [hmm] at hS hI hc he0 hk hx ⊢
  obtain ⟨z, hz⟩ : ∃ z : Int, ((1 : Nat) : Int) + (l : Int) * 18 = z := ⟨_, rfl⟩
  rw [hz] at hmk hhd
  have hz0 : ¬ z < 0 := by omega
  have hx' : ¬ (1048576 : Int) < (m : Int) := by omega
  obtain ⟨y, hy⟩ : ∃ y : Int, (1 : Int) + (m : Int) = y := ⟨_, rfl⟩
  rw [hy] at hk
  have hy0 : ¬ y < 0 := by omega
  have hyd : decide (y < 0) = false := by simp; omega
  have hcc : (code != code) = false := by simp
  simp only [Int.natCast_one] at hmk hhd
  clear hS0 hI0 h16 hll hz hL hmm hR hy
  unfold ecl at *
  go_enter Try.func4, Try.ntmps4
  go_wp2_with (first
    | (go_at_call 20; ((with_reducible refine (hhd.out qI capI w14 mI14).mono ?_); rintro e w15 ⟨rfl, hB15⟩; have b15 := b14.trans (hB15.mono b14.size); clear hB15))
    | (refine wpList_load_row rfl 30 _ rfl _ rfl 30 _ (0, 0) _ (c14) Try.underlying30 rfl (by kernel_rfl) ?_)
    | (go_at_call 13; ((with_reducible refine (heq.out qJ qS capJ capS _ (hrd.out _ _ _ (rJ13.al _)) (hrd.out _ _ _ (rS13.al _))).mono ?_); rintro e w14 ⟨rfl, hB14⟩; have c14 := (c13.alloc _).below hB14 (by have := c13.lt; simp; omega); have mI14 := (mI13.al _).below hB14 (Nat.le_refl _); have b14 := (b13.alloc b13.size _).trans (hB14.mono (by have := b13.size; simp; omega)); clear hB14))
    | (refine wpList_load_row rfl 30 _ rfl _ rfl 30 _ (0, 0) _ (Own.new w13 #[.int .i64 p', .int .i64 c', .int .i64 n', .slice qJ l capJ] 30) Try.underlying30 rfl (by kernel_rfl) ?_)
    | (refine wpList_load_row rfl 30 _ rfl _ rfl 30 _ (0, 0) _ (a13.alloc (.cells #[.int .i64 p', .int .i64 c', .int .i64 n', .slice qJ l capJ] 30)) Try.underlying30 rfl (by kernel_rfl) ?_)
    | (go_at_call 16; ((with_reducible refine (hI.out w12 _ (Rd.own hO12)).mono ?_); rintro e w13 ⟨⟨qJ, capJ, rfl, rJ13⟩, hB13⟩; have a13 := a12.below hB13 a12.lt; have c13 := c12.below hB13 c12.lt; have rS13 := rS12.below hB13 (Nat.le_refl _); have mI13 := mI12.below hB13 (Nat.le_refl _); have b13 := b12.trans (hB13.mono b12.size); clear hB13 a12 c12 rS12 mI12 b12))
    | (go_at_call 15; ((with_reducible refine (hc.out w11 (hR'.out.below b11)).mono ?_); rintro e w12 ⟨rfl, hO12, hB12⟩; have a12 := a11.below hB12 a11.lt; have c12 := c11.below hB12 c11.lt; have rS12 := rS11.below hB12 (Nat.le_refl _); have mI12 := mI11.below hB12 (Nat.le_refl _); have b12 := b11.trans (hB12.mono b11.size); clear hB12 a11 c11 rS11 mI11 b11))
    | (go_at_call 20; ((with_reducible refine (hhd.out qI capI w10 mI10).mono ?_); rintro e w11 ⟨rfl, hB11⟩; have a11 := a10.below hB11 a10.lt; have c11 := c10.below hB11 c10.lt; have rS11 := rS10.below hB11 (Nat.le_refl _); have mI11 := mI10.below hB11 (Nat.le_refl _); have b11 := b10.trans (hB11.mono b10.size); clear hB11 a10 c10 rS10 mI10 b10))
    | (refine wpList_load_row rfl 30 _ rfl _ rfl 30 _ (0, 0) _ (c10) Try.underlying30 rfl (by kernel_rfl) ?_)
    | (go_at_call 19; ((with_reducible refine (hmk.out qI capI w3.heap.size w9 rI9).mono ?_); rintro e w10 ⟨rfl, mI10, F10⟩; have a10 := F10.own a9 (fun a e => by have := kI.out a e; omega); have c10 := F10.own c9 (fun a e => by have := kI.out a e; omega); have rS10 := F10.res rS9 (fun a a' e e' => by have := kI.out a e; have := kS.out a' e'; omega); have b10 := b9.trans (F10.below w.heap.size b9.size (fun a e => by have := kI.out a e; omega)); clear F10 a9 c9 rS9 rI9 b9))
    | (refine wpList_load_row rfl 30 _ rfl _ rfl 30 _ (0, 0) _ (c9) Try.underlying30 rfl (by kernel_rfl) ?_)
    | (go_at_call 13; ((with_reducible refine (heq.out qI qS capI capS w8 (hrd.out _ _ _ rI8) (hrd.out _ _ _ rS8)).mono ?_); rintro e w9 ⟨rfl, hB9⟩; have a9 := a8.below hB9 a8.lt; have c9 := c8.below hB9 c8.lt; have rS9 := rS8.below hB9 (Nat.le_refl _); have rI9 := rI8.below hB9 (Nat.le_refl _); have b9 := b8.trans (hB9.mono b8.size); clear hB9 a8 c8 rS8 rI8 b8))
    | (refine wpList_load_row_if rfl 30 _ rfl _ rfl 30 _ _ (c8) Try.underlying30 rfl (by kernel_rfl) ?_)
    | (refine wpList_load_row_if rfl 30 _ rfl _ rfl 30 _ _ (a8) Try.underlying30 rfl (by kernel_rfl) ?_)
    | (go_at_call 18; ((with_reducible refine (hk.out _ _ w7 x7).mono ?_); rintro e w8 ⟨rfl, N8⟩; have a8 := a7.only N8 (by omega); have c8 := c7.only N8 (by omega); have rS8 := rS7.nli N8 x7; have rI8 := rI7.nli N8 x7; have b8 := b7.trans (N8.below.mono (by omega)); clear N8 a7 c7 rS7 rI7 b7 x7))
    | (go_at_call 17; ((with_reducible refine (he0.out _ _ _ _ w6 (Rd.own x6) (Rd.own hO6)).mono ?_); rintro e w7 ⟨rfl, hB7⟩; have x7 := x6.below hB7 x6.lt; have a7 := a6.below hB7 a6.lt; have c7 := c6.below hB7 c6.lt; have rS7 := rS6.below hB7 (Nat.le_refl _); have rI7 := rI6.below hB7 (Nat.le_refl _); have b7 := b6.trans (hB7.mono b6.size); clear hB7 x6 a6 c6 rS6 rI6 b6 hO6))
    | (go_at_call 15; ((with_reducible refine (hc.out w5 (hR'.out.below b5)).mono ?_); rintro e w6 ⟨rfl, hO6, hB6⟩; have x6 := x5.below hB6 x5.lt; have a6 := a5.below hB6 a5.lt; have c6 := c5.below hB6 c5.lt; have rS6 := rS5.below hB6 (Nat.le_refl _); have rI6 := rI5.below hB6 (Nat.le_refl _); have b6 := b5.trans (hB6.mono b5.size); clear hB6 x5 a5 c5 rS5 rI5 b5))
    | (go_at_call 13; ((with_reducible refine (heq.out qI qS capI capS _ (hrd.out _ _ _ (rI4.al _)) (hrd.out _ _ _ (rS4.al _))).mono ?_); rintro e w5 ⟨rfl, hB5⟩; have x5 := (x4.alloc _).below hB5 (by have := x4.lt; simp; omega); have a5 := (a4.alloc _).below hB5 (by have := a4.lt; simp; omega); have c5 := (Own.new w4 #[.int .i64 p', .int .i64 c', .int .i64 n', .slice qI l capI] 30).below hB5 (by simp); have rS5 := (rS4.al _).below hB5 (Nat.le_refl _); have rI5 := (rI4.al _).below hB5 (Nat.le_refl _); have b5 := (b4.alloc b4.size _).trans (hB5.mono (by have := b4.size; simp; omega)); clear hB5 x4 a4 rS4 rI4 b4))
    | (refine wpList_load_row rfl 30 _ rfl _ rfl 30 _ (0, 0) _ (Own.new w4 #[.int .i64 p', .int .i64 c', .int .i64 n', .slice qI l capI] 30) Try.underlying30 rfl (by kernel_rfl) ?_)
    | (refine wpList_load_row rfl 30 _ rfl _ rfl 30 _ (0, 0) _ (a4.alloc (.cells #[.int .i64 p', .int .i64 c', .int .i64 n', .slice qI l capI] 30)) Try.underlying30 rfl (by kernel_rfl) ?_)
    | (go_at_call 16; ((with_reducible refine (hI.out w3 _ (Rd.own x3)).mono ?_); rintro e w4 ⟨⟨qI, capI, rfl, rI4⟩, hB4⟩; have x4 := x3.below hB4 x3.lt; have a4 := a3.below hB4 a3.lt; have rS4 := rS3.below hB4 (Nat.le_refl _); have b4 := b3.trans (hB4.mono b3.size); have kI := Lib.hid rI4.blk; have s34 := hB4.size; clear hB4 x3 a3 rS3 b3))
    | (go_at_call 15; ((with_reducible refine (hc.out (w2.alloc _) (hR'.out.below (b2.alloc b2.size _))).mono ?_); rintro e w3 ⟨rfl, x3, hB3⟩; simp only [World.size_alloc] at x3; have a3 := (Own.new w2 #[.int .i64 p', .int .i64 c', .int .i64 n', .slice qS l capS] 30).below hB3 (by simp); have rS3 := (rS2.al _).below hB3 (Nat.le_refl _); have b3 := (b2.alloc b2.size _).trans (hB3.mono (by have := b2.size; simp; omega)); have kS := Lib.hid rS2.blk; have s23 := hB3.size; simp at s23; have s02 := b2.size; have s3x := x3.lt; clear hB3 rS2 b2))
    | (go_at_call 14; ((with_reducible refine (hS.out w1 _ (Rd.own hO1)).mono ?_); rintro e w2 ⟨⟨qS, capS, rfl, rS2⟩, hB2⟩; have b2 := b1.trans (hB2.mono b1.size); have s12 := hB2.size; clear hB2))
    | (go_at_call 15; ((with_reducible refine (hc.out w hR'.out).mono ?_); rintro e w1 ⟨rfl, hO1, b1⟩)))
  go_ret
  exact ⟨rfl, b15⟩
theorem brl_big (p a n : Int) (q : Option Addr) (cap : Nat) (len : Nat) (w : World) (hm : len ≤ maxLen) (h : 1048576 < len) : Calls Try.prog 4 #[.int .i64 p, .int .i64 a, .int .i64 n, .slice q len cap] w fun e w' => e = .returned (.bool true) ∧ Below w.heap.size w w' := by
  unfold maxLen at hm
  have h' : (1048576 : Int) < (len : Int) := by omega
  go_enter Try.func4, Try.ntmps4
  go_wp2
  go_ret
  exact ⟨rfl, Below.refl _ _⟩
end Go.Proofs.Ytbibmncepjmgcaa
