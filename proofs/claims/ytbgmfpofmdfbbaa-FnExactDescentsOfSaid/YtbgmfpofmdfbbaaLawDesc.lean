/- The law of DescentsOf. -/
import Derived.Test.YtbgmfpofmdfbbaaDescS
namespace Go.Proofs.Ytbgmfpofmdfbbaa
open Go.RowKit
set_option linter.unusedVariables false
set_option maxRecDepth 100000 in
set_option maxHeartbeats 4000000 in
theorem DescentsOf_walk (n : Int) (ms : List Int) (hms : ms.length = 16) (w : World) (xs ys : List Int) (hlx : xs.length ≤ 100) (hly : ys.length ≤ 100) (c : Int)
    (hS : ∀ w, Calls Try.prog 38 #[.agg (dcells n ms)] w (ResII xs ys c w))
    (hI : ∀ w, Calls Try.prog 39 #[.agg (dcells n ms)] w (ResII xs ys c w)) :
    Calls Try.prog 11 #[.agg (dcells n ms)] w fun e w' => e = .returned (.bool true) ∧ Below w.heap.size w w' := by
  have hl := Lib.hid hms
  have hS' := Lib.hid hS
  have hI' := Lib.hid hI
  obtain ⟨l1, hm1⟩ : ∃ m, xs.length = m := ⟨_, rfl⟩
  obtain ⟨l2, hm2⟩ : ∃ m, ys.length = m := ⟨_, rfl⟩
  have he1 := Lib.hid (fun p q cap cap' w hR hQ => eqI_same p q cap cap' xs (by omega) w hR hQ)
  have he2 := Lib.hid (fun p q cap cap' w hR hQ => eqI_same p q cap cap' ys (by omega) w hR hQ)
  have hk1 := Lib.hid (fun B p cap w hM hB => mark_all B p cap xs (by omega) 1 (by omega) (by omega) w hM hB)
  have hk2 := Lib.hid (fun B p cap w hM hB => mark_all B p cap ys (by omega) (1 + l1) (by omega) (by omega) w hM hB)
  have hh1 := Lib.hid (fun p cap w hR => held_any p cap l1 (by omega) 1 (by omega) (by omega) w hR)
  have hh2 := Lib.hid (fun p cap w hR => held_any p cap l2 (by omega) (1 + l1) (by omega) (by omega) w hR)
  have hrs := Lib.hid (show ∀ w e w', ResII xs ys c w e w' → ∃ (p q : Option Addr) (cap cap' : Nat), e = .returned (.tuple #[.slice p l1 cap, .slice q l2 cap', .int .i64 c]) ∧ Mn w' w.heap.size p xs ∧ Mn w' w.heap.size q ys ∧ (∀ a, p = some a → q ≠ some a) ∧ Below w.heap.size w w' from fun w e w' h => by
    obtain ⟨p, q, cap, cap', h1, h2⟩ := h
    rw [hm1, hm2] at h1
    exact ⟨p, q, cap, cap', h1, h2⟩)
  have ll1 : l1 ≤ 100 := by omega
  have ll2 : l2 ≤ 100 := by omega
  rw [hm1] at he1 hk1
  rw [hm2] at he2 hk2
  clear hms hS hI hm1 hm2 hlx hly
  go_enter Try.func11, Try.ntmps11
  go_wp2_with (first
    | (go_at_call 37; ((with_reducible refine (hh2.out _ _ w12b hp2c.rd).mono ?_); rintro e w12c ⟨rfl, rfl⟩))
    | (go_at_call 37; ((with_reducible refine (hh1.out _ _ w12 (((hp1b.below hB9 (Nat.le_refl _)).below hB10 (Nat.le_refl _)).below (hB11.trans (hB12.mono hB11.size)) (Nat.le_refl _)).rd).mono ?_); rintro e w12b ⟨rfl, rfl⟩; have hp2c := ((hp2b.below hB9 (Nat.le_refl _)).below hB10 (Nat.le_refl _)).below (hB11.trans (hB12.mono hB11.size)) (Nat.le_refl _)))
    | (go_at_call 29; ((with_reducible refine (he2.out _ _ _ _ w11 (hr2.below hB11 (Nat.le_refl _)).rd (((hq2h.below hB9 (Nat.le_refl _)).below hB10 (Nat.le_refl _)).below hB11 (Nat.le_refl _)).rd).mono ?_); rintro e w12 ⟨rfl, hB12⟩))
    | (go_at_call 29; ((with_reducible refine (he1.out _ _ _ _ w10 hr1.rd ((hq1h.below hB9 (Nat.le_refl _)).below hB10 (Nat.le_refl _)).rd).mono ?_); rintro e w11 ⟨rfl, hB11⟩))
    | (go_at_call 39; ((with_reducible refine (hI'.out w9).mono ?_); rintro e w10 hres10; obtain ⟨r1, r2, rc1, rc2, rfl, hr1, hr2, hrd, hB10⟩ := hrs.out _ _ _ hres10))
    | (go_at_call 14; ((with_reducible refine (toD_any n ms hl.out w8c).mono ?_); rintro e w9 ⟨rfl, hB9⟩))
    | (refine wpList_load_row rfl 24 _ rfl _ rfl 24 _ (0, 0) _ (hA8) Try.underlying24 rfl (row50 (d17 _ _ (hl.out))) ?_)
    | (go_at_call 37; ((with_reducible refine (hh2.out _ _ w8b hp2b.rd).mono ?_); rintro e w8c ⟨rfl, rfl⟩))
    | (go_at_call 37; ((with_reducible refine (hh1.out _ _ w8 hp1b.rd).mono ?_); rintro e w8b ⟨rfl, rfl⟩))
    | (go_at_call 36; ((with_reducible refine (hk2.out w3.heap.size _ _ w7 hp2a (Nat.le_trans hs6 (Nat.le_of_lt_succ (Nat.lt_succ_of_le hB7.size)))).mono ?_); rintro e w8 ⟨rfl, hp2b, hB8, hX8⟩; have hp1b := hX8 _ _ hp1a (fun a e1 e2 => hpd a e2 e1); have bq : Below w3.heap.size w3 w8 := ((b36.trans hB7).trans hB8); have hq1h := hq1c.below bq (Nat.le_refl _); have hq2h := hq2c.below bq (Nat.le_refl _); have hA8 : Own w8 w.heap.size (dcells n ms) 24 := hA3.below bq hA3.lt))
    | (go_at_call 36; ((with_reducible refine (hk1.out w3.heap.size _ _ w6 ((hp1.below hB5 (Nat.le_refl _)).below hB6 (Nat.le_refl _)) hs6).mono ?_); rintro e w7 ⟨rfl, hp1a, hB7, hX7⟩; have hp2a := hX7 _ _ ((hp2.below hB5 (Nat.le_refl _)).below hB6 (Nat.le_refl _)) hpd))
    | (go_at_call 29; ((with_reducible refine (he2.out _ _ _ _ w5 (hp2.below hB5 (Nat.le_refl _)).rd ((hq2c.below hB4 (Nat.le_refl _)).below hB5 (Nat.le_refl _)).rd).mono ?_); rintro e w6 ⟨rfl, hB6⟩; have b36 : Below w3.heap.size w3 w6 := (hB4.trans (hB5.mono hB4.size)).trans (hB6.mono (Nat.le_trans hB4.size hB5.size)); have hs6 := b36.size))
    | (go_at_call 29; ((with_reducible refine (he1.out _ _ _ _ w4 hp1.rd (hq1c.below hB4 (Nat.le_refl _)).rd).mono ?_); rintro e w5 ⟨rfl, hB5⟩))
    | (go_at_call 39; ((with_reducible refine (hI'.out w3).mono ?_); rintro e w4 hres4; obtain ⟨p1, p2, pc1, pc2, rfl, hp1, hp2, hpd, hB4⟩ := hrs.out _ _ _ hres4))
    | (go_at_call 14; ((with_reducible refine (toD_any n ms hl.out w2).mono ?_); rintro e w3 ⟨rfl, hB3⟩; have hq1c := hq1.below hB3 (Nat.le_refl _); have hq2c := hq2.below hB3 (Nat.le_refl _); have hA3 := hA2.below hB3 hA2.lt))
    | (refine wpList_load_row rfl 24 _ rfl _ rfl 24 _ (0, 0) _ (hA2) Try.underlying24 rfl (row50 (d17 _ _ (hl.out))) ?_)
    | (go_at_call 38; ((with_reducible refine (hS'.out w1).mono ?_); rintro e w2 hres2; obtain ⟨q1, q2, qc1, qc2, rfl, hq1, hq2, hqd, hB2⟩ := hrs.out _ _ _ hres2; have hA2 := hA1.below hB2 hA1.lt))
    | (go_at_call 14; ((with_reducible refine (toD_any n ms hl.out _).mono ?_); rintro e w1 ⟨rfl, hB1⟩; have hA1 : Own w1 w.heap.size (dcells n ms) 24 := (Own.new _ _ _).below hB1 (by simp)))
    | (refine wpList_load_row rfl 24 _ rfl _ rfl 24 _ (0, 0) _ (Own.new _ _ _) Try.underlying24 rfl (row50 (d17 _ _ (hl.out))) ?_))
  go_ret
  have b0 : Below w.heap.size w (w.alloc (.cells (dcells n ms) 24)) := (Below.refl _ _).alloc (Nat.le_refl _) _
  have b1 := b0.trans (hB1.mono b0.size)
  have b2 := b1.trans (hB2.mono b1.size)
  have b3 := b2.trans (hB3.mono b2.size)
  have b8 := b3.trans (bq.mono b3.size)
  have b9 := b8.trans (hB9.mono b8.size)
  have b10 := b9.trans (hB10.mono b9.size)
  have b11 := b10.trans (hB11.mono b10.size)
  exact ⟨rfl, b11.trans (hB12.mono b11.size)⟩
theorem desc_law (n : Int) (ms : List Int) (hms : ms.length = 16) (hb : Bytes ms) (w : World) :
    Calls Try.prog 11 #[.agg (dcells n ms)] w fun e w' => e = .returned (.bool true) ∧ Below w.heap.size w w' := by
  cases hd : isD n ms with
  | true =>
    have hn := ((isD_iff n ms hms hb).1 hd).1
    exact DescentsOf_walk n ms hms w _ _ (by have := dsc_len ms 0 (n - 1).toNat; omega) (by have := dsc_len ms n (n - 1).toNat; omega) 0 (descOfS_ok n ms hms hb hd) (descOfI_ok n ms hms hb hd)
  | false => exact DescentsOf_walk n ms hms w [] [] (by simp) (by simp) 1 (descOfS_bad n ms hms hb hd) (descOfI_bad n ms hms hb hd)
end Go.Proofs.Ytbgmfpofmdfbbaa
