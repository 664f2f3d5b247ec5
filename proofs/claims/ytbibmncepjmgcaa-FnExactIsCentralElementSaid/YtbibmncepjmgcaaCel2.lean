/- IsCentralElement: the errors, the law. (Written by gencel2.py.) -/
import Derived.Test.YtbibmncepjmgcaaCen
import Derived.Test.YtbibmncepjmgcaaKi
namespace Go.Proofs.Ytbibmncepjmgcaa
open Go.RowKit Go.Lib
set_option linter.unusedVariables false
set_option linter.unusedSimpArgs false
set_option maxRecDepth 100000 in
set_option maxHeartbeats 1000000 in
theorem cenI_bad (p c n : Int) (a cap : Nat) (ts : List Tm) (hts : ∀ t ∈ ts, t.2.1.length = 16 ∧ Bytes t.2.1) (hx : ts.length ≤ 1048576) (he : elB p c n ts = false) (w : World) (hR : RdT w (some ⟨a, 0, none⟩) ts) :
    Calls Try.prog 12 #[.agg (ecl p c n (.slice (some ⟨a, 0, none⟩) ts.length cap))] w fun e w' => e = .returned (.tuple #[.bool false, .int .i64 1]) ∧ Below w.heap.size w w' := by
  have hi := Lib.hid (fun w hR => elI_any p c n (some ⟨a, 0, none⟩) cap ts hts hx w hR)
  rw [he] at hi
  have hR2 := Lib.hid (fun w' (hb : Below w.heap.size w w') => hR.below hb)
  obtain ⟨l, hl⟩ : ∃ l, ts.length = l := ⟨_, rfl⟩
  rw [hl] at hi ⊢
  clear hts hx he hR hl
  unfold ecl at *
  go_enter Try.func12, Try.ntmps12
  go_wp2_with (first
    | (go_at_call 36; (have wb := ((Below.refl w.heap.size w).alloc (Nat.le_refl _) (.cells #[.int .i64 p, .int .i64 c, .int .i64 n, .slice (some ⟨a, 0, none⟩) l cap] 30)); (with_reducible refine (hi.out _ (hR2.out _ wb)).mono ?_); rintro e w1 ⟨rfl, hB1⟩; have b1 : Below w.heap.size w w1 := wb.trans (hB1.mono (by simp)); clear hB1 wb))
    | (refine wpList_load_row rfl 30 _ rfl _ rfl 30 _ (0, 0) _ (Own.new w _ _) Try.underlying30 rfl (by kernel_rfl) ?_))
  go_ret2
  exact ⟨rfl, b1⟩
set_option maxRecDepth 100000 in
set_option maxHeartbeats 1000000 in
theorem cenS_bad (p c n : Int) (a cap : Nat) (ts : List Tm) (hts : ∀ t ∈ ts, t.2.1.length = 16 ∧ Bytes t.2.1) (hx : ts.length ≤ 1048576) (hpw : -9223372036854775808 ≤ p ∧ p ≤ 9223372036854775807) (he : elB p c n ts = false) (w : World) (hR : RdT w (some ⟨a, 0, none⟩) ts) :
    Calls Try.prog 10 #[.agg (ecl p c n (.slice (some ⟨a, 0, none⟩) ts.length cap))] w fun e w' => e = .returned (.tuple #[.bool false, .int .i64 1]) ∧ Below w.heap.size w w' := by
  have hi := Lib.hid (fun w hR => elS_any p c n (some ⟨a, 0, none⟩) cap ts hts hx hpw w hR)
  rw [he] at hi
  have hR2 := Lib.hid (fun w' (hb : Below w.heap.size w w') => hR.below hb)
  obtain ⟨l, hl⟩ : ∃ l, ts.length = l := ⟨_, rfl⟩
  rw [hl] at hi ⊢
  clear hts hx he hR hl
  unfold ecl at *
  go_enter Try.func10, Try.ntmps10
  go_wp2_with (first
    | (go_at_call 30; (have wb := ((Below.refl w.heap.size w).alloc (Nat.le_refl _) (.cells #[.int .i64 p, .int .i64 c, .int .i64 n, .slice (some ⟨a, 0, none⟩) l cap] 30)); (with_reducible refine (hi.out _ (hR2.out _ wb)).mono ?_); rintro e w1 ⟨rfl, hB1⟩; have b1 : Below w.heap.size w w1 := wb.trans (hB1.mono (by simp)); clear hB1 wb))
    | (refine wpList_load_row rfl 30 _ rfl _ rfl 30 _ (0, 0) _ (Own.new w _ _) Try.underlying30 rfl (by kernel_rfl) ?_))
  go_ret2
  exact ⟨rfl, b1⟩
set_option maxRecDepth 100000 in
set_option maxHeartbeats 4000000 in
theorem cen_walk (p c n : Int) (q : Option Addr) (cap : Nat) (ts : List Tm) (hts : ∀ t ∈ ts, t.2.1.length = 16 ∧ Bytes t.2.1) (hx : ts.length ≤ 1048576) (w : World) (hR : RdT w q ts) (r : Bool) (code : Int)
    (hS0 : ∀ w (a cap : Nat), RdT w (some ⟨a, 0, none⟩) ts → Calls Try.prog 10 #[.agg (ecl p c n (.slice (some ⟨a, 0, none⟩) ts.length cap))] w fun e w' => e = .returned (.tuple #[.bool r, .int .i64 code]) ∧ Below w.heap.size w w')
    (hI0 : ∀ w (a cap : Nat), RdT w (some ⟨a, 0, none⟩) ts → Calls Try.prog 12 #[.agg (ecl p c n (.slice (some ⟨a, 0, none⟩) ts.length cap))] w fun e w' => e = .returned (.tuple #[.bool r, .int .i64 code]) ∧ Below w.heap.size w w') :
    Calls Try.prog 3 #[.agg (ecl p c n (.slice q ts.length cap))] w fun e w' => e = .returned (.bool true) ∧ Below w.heap.size w w' := by
  have h16 : ∀ t ∈ ts, t.2.1.length = 16 := fun t h => (hts t h).1
  have hsz := Lib.hid (fun w => szE_any p c n q ts.length cap 1048576 w (by unfold maxLen; omega) (by omega) (by omega))
  rw [if_neg (by omega)] at hsz
  have hto := Lib.hid (fun w hR => toE_any p c n q cap ts h16 hx w hR)
  have hS := Lib.hid (fun (a : Nat) (w : World) (hO : Own w a (tsl ts).toArray 56) => hS0 w a ts.length (hO.rdT h16))
  have hI := Lib.hid (fun (a : Nat) (w : World) (hO : Own w a (tsl ts).toArray 56) => hI0 w a ts.length (hO.rdT h16))
  have heq := Lib.hid (fun (a b : Nat) (w : World) hA hB => eqE_same p c n a b ts.length ts.length ts h16 hx w hA hB)
  have hR' := Lib.hid hR
  obtain ⟨l, hl⟩ : ∃ l, ts.length = l := ⟨_, rfl⟩
  rw [hl] at hx hsz hto hS hI heq ⊢
  clear hl hR h16 hts hS0 hI0
  have hlz : ¬ (1048576 - (l : Int) < 0) := by omega
  obtain ⟨z, hz⟩ : ∃ z : Int, 1048576 - (l : Int) = z := ⟨_, rfl⟩
  rw [hz] at hsz hlz
  have hcc : (code != code) = false := by simp
  clear hz
  go_enter Try.func3, Try.ntmps3
  unfold ecl at *
  cases r
  all_goals
    go_wp2_with (first
      | (go_at_call 9; ((with_reducible refine (hsz.out _).mono ?_); rintro e w1 ⟨rfl, hB1⟩; have b1 := ((Below.refl w.heap.size w).alloc (Nat.le_refl _) _).trans (hB1.mono (by simp)); have hA1 := (Own.new w #[.int .i64 p, .int .i64 c, .int .i64 n, .slice q l cap] 24).below hB1 (by simp)))
      | (go_at_call 11; ((with_reducible refine (hto.out w5 (hR'.out.below b5)).mono ?_); rintro e w6 ⟨rfl, hO6, hB6⟩; have b6 := b5.trans (hB6.mono b5.size); have hA6 := hA5.below hB6 hA5.lt))
      | (go_at_call 11; ((with_reducible refine (hto.out w3 (hR'.out.below b3)).mono ?_); rintro e w4 ⟨rfl, hO4, hB4⟩; have b4 := b3.trans (hB4.mono b3.size); have hA4 := hA3.below hB4 hA3.lt))
      | (go_at_call 11; ((with_reducible refine (hto.out w1 (hR'.out.below b1)).mono ?_); rintro e w2 ⟨rfl, hO2, hB2⟩; have b2 := b1.trans (hB2.mono b1.size); have hA2 := hA1.below hB2 hA1.lt))
      | (go_at_call 10; ((with_reducible refine (hS.out _ w2 hO2).mono ?_); rintro e w3 ⟨rfl, hB3⟩; have b3 := b2.trans (hB3.mono b2.size); have hA3 := hA2.below hB3 hA2.lt))
      | (refine wpList_store_own rfl 30 _ _ rfl _ _ rfl rfl 30 _ (Own.new w4 _ _) (by kernel_rfl) rfl (by simp [Value.oneCell']) ?_; intro w5a hO5 hN5; have b5a := (b4.alloc b4.size _).trans (hN5.below.mono b4.size); have hA5a := (hA4.alloc _).only hN5 (Nat.ne_of_lt hA4.lt); have hT5 := (hO4.alloc _).only hN5 (Nat.ne_of_lt hO4.lt))
      | (refine wpList_load_row rfl 24 _ rfl _ rfl 24 _ (0, 0) _ hA4 Try.underlying24 rfl (by kernel_rfl) ?_)
      | (refine wpList_load_row rfl 24 _ rfl _ rfl 24 _ (0, 0) _ hA3 Try.underlying24 rfl (by kernel_rfl) ?_)
      | (refine wpList_load_row rfl 24 _ rfl _ rfl 24 _ (0, 0) _ hA1 Try.underlying24 rfl (by kernel_rfl) ?_)
      | (refine wpList_load_row rfl 24 _ rfl _ rfl 24 _ (0, 0) _ (Own.new w _ _) Try.underlying24 rfl (by kernel_rfl) ?_)
      | (refine wpList_load_row rfl 30 _ rfl _ rfl 30 _ (0, 0) _ hO5 Try.underlying30 rfl (by kernel_rfl) ?_)
      | (go_at_call 12; ((with_reducible refine (hI.out _ w5a hT5).mono ?_); rintro e w5 ⟨rfl, hB5⟩; have b5 := b5a.trans (hB5.mono b5a.size); have hA5 := hA5a.below hB5 hA5a.lt; have hX5 := hO5.below hB5 hO5.lt; have hT5b := hT5.below hB5 hT5.lt)))
    have hXc := Lib.hid (fun wd (hd : Below w5.heap.size w5 wd) => own4 (hX5.below hd hX5.lt))
    have hAc := Lib.hid (fun wd (hd : Below w5.heap.size w5 wd) => own4 (hA5.below hd hA5.lt))
    refine wp_region_on (fun w' => Below w5.heap.size w5 w') [0, 1] [2] 3 (by kernel_rfl) (by kernel_rfl) (Below.drewN (Below.refl _ _) 1) ?_
    simp only [List.map_cons, List.map_nil, opN_zero, opN_succ, List.drop_succ_cons, List.drop_zero]
    (apply wpOn_step; · (intro wd hS' K hK; obtain ⟨k0, k1, k2, k3⟩ := hXc.out wd hS'; clear hS'; go_simp; exact hK))
    (apply wpOn_step; · (intro wd hS' K hK; obtain ⟨k0, k1, k2, k3⟩ := hAc.out wd hS'; clear hS'; go_simp; exact hK))
    refine wpOn_nil ?_
    intro w8 hB8
    have b8 := b5.trans (hB8.mono b5.size)
    have hT8 := hT5b.below hB8 hT5b.lt
    refine wpMid_step (fun K hK => ?_)
    go_wp2_with (first
      | (go_at_call 11; ((with_reducible refine (hto.out w8 (hR'.out.below b8)).mono ?_); rintro e w9 ⟨rfl, hO9, hB9⟩; have b9 := b8.trans (hB9.mono b8.size); have hT9 := hT8.below hB9 hT8.lt)))
    refine hK _ _ (hB8.trans (hB9.mono hB8.size)) ?_
    clear hK K
    refine wpMid_nil ?_
    go_wp2_with (first
      | (go_at_call 13; ((with_reducible refine (heq.out _ _ w9 hT9 hO9).mono ?_); rintro e w10 ⟨rfl, hB10⟩; have b10 := b9.trans (hB10.mono b9.size))))
    go_ret
    exact ⟨rfl, b10⟩
theorem cen_big (p c n : Int) (q : Option Addr) (len cap : Nat) (w : World) (hm : len ≤ maxLen) (h : 1048576 < len) : Calls Try.prog 3 #[.agg (ecl p c n (.slice q len cap))] w fun e w' => e = .returned (.bool true) ∧ Below w.heap.size w w' := by
  have hsz := Lib.hid (fun w => szE_any p c n q len cap 1048576 w hm (by omega) (by omega))
  rw [if_pos (by omega)] at hsz
  clear h hm
  go_enter Try.func3, Try.ntmps3
  unfold ecl at *
  go_wp2_with (first
      | (go_at_call 9; ((with_reducible refine (hsz.out _).mono ?_); rintro e w1 ⟨rfl, hB1⟩; have b1 := ((Below.refl w.heap.size w).alloc (Nat.le_refl _) _).trans (hB1.mono (by simp))))
      | (refine wpList_load_row rfl 24 _ rfl _ rfl 24 _ (0, 0) _ (Own.new w _ _) Try.underlying24 rfl (by kernel_rfl) ?_))
  go_ret
  exact ⟨rfl, b1⟩
theorem cen_law (p c n : Int) (q : Option Addr) (cap : Nat) (ts : List Tm) (hts : ∀ t ∈ ts, OkTm t) (hm : ts.length ≤ maxLen) (hp0 : -9223372036854775808 ≤ p ∧ p ≤ 9223372036854775807) (w : World) (hR : RdT w q ts) :
    Calls Try.prog 3 #[.agg (ecl p c n (.slice q ts.length cap))] w fun e w' => e = .returned (.bool true) ∧ Below w.heap.size w w' := by
  by_cases h : ts.length ≤ 1048576
  · have hts' : ∀ t ∈ ts, t.2.1.length = 16 ∧ Bytes t.2.1 := fun t ht => hts t ht
    cases he : elB p c n ts with
    | true => exact cen_walk p c n q cap ts hts' h w hR _ _ (fun w a cap hR => cenS_ok p c n a cap ts hts' h he w hR) (fun w a cap hR => cenI_ok p c n a cap ts hts' h he w hR)
    | false => exact cen_walk p c n q cap ts hts' h w hR _ _ (fun w a cap hR => cenS_bad p c n a cap ts hts' h hp0 he w hR) (fun w a cap hR => cenI_bad p c n a cap ts hts' h he w hR)
  · exact cen_big p c n q ts.length cap w hm (by omega)
end Go.Proofs.Ytbibmncepjmgcaa
