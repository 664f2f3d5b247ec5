/- Brackets: the program's bracket of a word. -/
import Derived.Test.YtbibmncepjmgcaaBki
namespace Go.Proofs.Ytbibmncepjmgcaa
open Go.RowKit Go.Lib
set_option linter.unusedVariables false
set_option linter.unusedSimpArgs false
set_option maxRecDepth 100000 in
set_option maxHeartbeats 4000000 in
theorem bktI_any (a b p c n : Int) (hp : 2 ≤ p) (hp2 : p ≤ 97) (hc0 : 0 ≤ c) (hc1 : c < p) (h2 : 2 ≤ n) (h6 : n ≤ 6) (ha : 0 ≤ a ∧ a ≤ 100) (hb : 0 ≤ b ∧ b ≤ 100) (q0 : Option Addr) (cap : Nat) (xs : List Int) (hxl : xs.length ≤ 24) (hxs : ∀ x ∈ xs, x ≠ 0 ∧ -n < x ∧ x < n) (w : World) (hR : Rd w q0 xs) :
    Calls Try.prog 51 #[.agg (skv a b p c n), .slice q0 xs.length cap] w fun e w' => e = .returned (.int .i64 (bkV p c (brN p c n a b xs))) ∧ Below w.heap.size w w' := by
  have hel := Lib.hid (fun w hR => beoI_any a b p c n hp hp2 hc0 hc1 h2 h6 ha hb q0 cap xs hxl hxs w hR)
  have hok0 := brN_ok (c := c) (a := a) (b := b) hp hp2 h2 h6 xs hxs xs.length (Nat.le_refl _)
  rw [List.take_length] at hok0
  have hso := Lib.hid (fun q cap g5 g6 w hR h5 h6 => sop_any p c n hp hp2 hc0 hc1 (brN p c n a b xs) hok0 q cap g5 g6 w hR h5 h6)
  have h16 := good16 hok0.1
  have hrd := Lib.hid (fun W B q (h : Res W B q (brN p c n a b xs)) => h.rd h16)
  obtain ⟨R, hRR⟩ : ∃ R, brN p c n a b xs = R := ⟨_, rfl⟩
  rw [hRR] at hel hso hrd ⊢
  obtain ⟨l, hl⟩ : ∃ l, R.length = l := ⟨_, rfl⟩
  rw [hl] at hel hso
  have hRx := Lib.hid (fun w' (hb : Below w.heap.size w w') => hR.below hb)
  obtain ⟨m, hm⟩ : ∃ m, xs.length = m := ⟨_, rfl⟩
  rw [hm] at hel ⊢
  obtain ⟨V, hV⟩ : ∃ V, bkV p c R = V := ⟨_, rfl⟩
  rw [hV] at hso ⊢
  have hmf : ∀ (fn : Fn) (first cap : Array Value) (w : World), (Instr.makeFunc fn first cap).run Try.prog w = .ok (.func fn first cap) w := fun _ _ _ _ => rfl
  have hfd : ∀ w : World, (Instr.field 30 (.agg #[.int .i64 p, .int .i64 c, .int .i64 n, .slice none 0 0]) 3).run Try.prog w = .ok (.slice none 0 0) w := fun w => by kernel_rfl
  have hfe : ∀ (q : Option Addr) (cp : Nat) (w : World), (Instr.field 30 (.agg #[.int .i64 p, .int .i64 c, .int .i64 n, .slice q l cp]) 3).run Try.prog w = .ok (.slice q l cp) w := fun q cp w => by kernel_rfl
  clear hok0 h16 hRR hl hR hm hV hxs
  unfold skv at *
  unfold ecl at *
  go_enter Try.func51, Try.ntmps51
  go_upto_region 1 with fail
  go_region
  · have oS : Own ((((w.alloc (.cells #[.int .i64 a, .int .i64 b, .int .i64 p, .int .i64 c, .int .i64 n, .slice none 0 0] 71)).alloc (.cells #[.int .i64 p] 2)).alloc (.cells #[.int .i64 c] 2)).drew) w.heap.size #[.int .i64 a, .int .i64 b, .int .i64 p, .int .i64 c, .int .i64 n, .slice none 0 0] 71 := ((Own.new w _ _).alloc _).alloc _
    have o5 : Own ((((w.alloc (.cells #[.int .i64 a, .int .i64 b, .int .i64 p, .int .i64 c, .int .i64 n, .slice none 0 0] 71)).alloc (.cells #[.int .i64 p] 2)).alloc (.cells #[.int .i64 c] 2)).drew) (w.heap.size + 1) #[.int .i64 p] 2 := (Own.at (w.alloc _) _ _ (by simp)).alloc _
    have o6 : Own ((((w.alloc (.cells #[.int .i64 a, .int .i64 b, .int .i64 p, .int .i64 c, .int .i64 n, .slice none 0 0] 71)).alloc (.cells #[.int .i64 p] 2)).alloc (.cells #[.int .i64 c] 2)).drew) (w.heap.size + 1 + 1) #[.int .i64 c] 2 := Own.at ((w.alloc _).alloc _) _ _ (by simp)
    have b2 : Below w.heap.size w ((((w.alloc (.cells #[.int .i64 a, .int .i64 b, .int .i64 p, .int .i64 c, .int .i64 n, .slice none 0 0] 71)).alloc (.cells #[.int .i64 p] 2)).alloc (.cells #[.int .i64 c] 2)).drew) := ((((Below.refl w.heap.size w).alloc (Nat.le_refl _) _).alloc (by simp) _).alloc (by simp; omega) _).drew
    generalize ((((w.alloc (.cells #[.int .i64 a, .int .i64 b, .int .i64 p, .int .i64 c, .int .i64 n, .slice none 0 0] 71)).alloc (.cells #[.int .i64 p] 2)).alloc (.cells #[.int .i64 c] 2)).drew) = w2 at *
    go_upto_region 2 with fail
    refine wp_region_st (fun x => Own x w.heap.size #[.int .i64 a, .int .i64 b, .int .i64 p, .int .i64 c, .int .i64 n, .slice none 0 0] 71 ∧ Own x (w.heap.size + 1) #[.int .i64 p] 2) [(true, 0), (true, 1), (true, 2), (true, 5), (false, 3), (true, 4)] 6 (by kernel_rfl) (by kernel_rfl) ⟨oS.drewN 1, o5.drewN 1⟩ ?_
    have oSd : Own { w2 with drawn := w2.drawn + 1 } w.heap.size #[.int .i64 a, .int .i64 b, .int .i64 p, .int .i64 c, .int .i64 n, .slice none 0 0] 71 := oS
    have o5d : Own { w2 with drawn := w2.drawn + 1 }  (w.heap.size + 1) #[.int .i64 p] 2 := o5
    have o6d : Own { w2 with drawn := w2.drawn + 1 } (w.heap.size + 1 + 1) #[.int .i64 c] 2 := o6
    have bd : Below w.heap.size w { w2 with drawn := w2.drawn + 1 } := b2.drew
    clear oS o5 o6 b2
    generalize ({ w2 with drawn := w2.drawn + 1 } : World) = w3 at *
    simp only [List.map_cons, List.map_nil, opS'_mk, opN_zero, opN_succ, List.drop_succ_cons, List.drop_zero]
    (apply wpSt_read; · (intro wd hS K hK; have k0 : wd.cell? ⟨w.heap.size + 1, 0, none⟩ = some (.int .i64 p) := hS.2.cell 0; clear hS; go_simp; exact hK))
    (apply wpSt_read; · (intro wd hS K hK; rw [if_pos (by rfl)]; refine still_load_row 71 (.tmp 2) rfl w.heap.size rfl 71 #[.int .i64 a, .int .i64 b, .int .i64 p, .int .i64 c, .int .i64 n, .slice none 0 0] _ hS.1 Try.underlying71 rfl (by kernel_rfl) ?_; exact hK))
    iterate 2 (apply wpSt_read; · (intro wd hS K hK; clear hS; go_simp; exact hK))
    refine wpSt_keep (fun K hK => ?_)
    go_wp2_with (first
      | (go_at_call 47; ((with_reducible refine (hel.out w3 (hRx.out _ bd)).mono ?_); rintro e w4 ⟨⟨q, cp, rfl, hr⟩, hB4⟩)))
    have oS4 := oSd.below hB4 oSd.lt
    have o54 := o5d.below hB4 o5d.lt
    have o64 := o6d.below hB4 o6d.lt
    have b4 := bd.trans (hB4.mono bd.size)
    have hrr := Lib.hid hr
    refine hK _ _ ⟨oS4, o54⟩ rfl ?_
    clear hK K oSd o5d o6d hB4 bd hr
    (apply wpSt_read; · (intro wd hS K hK; clear hS; go_simp; exact hK))
    refine wpSt_nil ?_
    go_wp2_with (first
      | (go_at_call 96; ((with_reducible refine (hso.out q cp (w.heap.size + 1) (w.heap.size + 1 + 1) w4 (hrd.out _ _ _ hrr.out) o54 o64).mono ?_); rintro e w5 ⟨rfl, hB5⟩; have b5 := b4.trans (hB5.mono b4.size))))
    go_ret
    exact ⟨rfl, b5⟩
  · have oS : Own ((((w.alloc (.cells #[.int .i64 a, .int .i64 b, .int .i64 p, .int .i64 c, .int .i64 n, .slice none 0 0] 71)).alloc (.cells #[.int .i64 c] 2)).alloc (.cells #[.int .i64 p] 2)).drew) w.heap.size #[.int .i64 a, .int .i64 b, .int .i64 p, .int .i64 c, .int .i64 n, .slice none 0 0] 71 := ((Own.new w _ _).alloc _).alloc _
    have o5 : Own ((((w.alloc (.cells #[.int .i64 a, .int .i64 b, .int .i64 p, .int .i64 c, .int .i64 n, .slice none 0 0] 71)).alloc (.cells #[.int .i64 c] 2)).alloc (.cells #[.int .i64 p] 2)).drew) (w.heap.size + 1 + 1) #[.int .i64 p] 2 := Own.at ((w.alloc _).alloc _) _ _ (by simp)
    have o6 : Own ((((w.alloc (.cells #[.int .i64 a, .int .i64 b, .int .i64 p, .int .i64 c, .int .i64 n, .slice none 0 0] 71)).alloc (.cells #[.int .i64 c] 2)).alloc (.cells #[.int .i64 p] 2)).drew) (w.heap.size + 1) #[.int .i64 c] 2 := (Own.at (w.alloc _) _ _ (by simp)).alloc _
    have b2 : Below w.heap.size w ((((w.alloc (.cells #[.int .i64 a, .int .i64 b, .int .i64 p, .int .i64 c, .int .i64 n, .slice none 0 0] 71)).alloc (.cells #[.int .i64 c] 2)).alloc (.cells #[.int .i64 p] 2)).drew) := ((((Below.refl w.heap.size w).alloc (Nat.le_refl _) _).alloc (by simp) _).alloc (by simp; omega) _).drew
    generalize ((((w.alloc (.cells #[.int .i64 a, .int .i64 b, .int .i64 p, .int .i64 c, .int .i64 n, .slice none 0 0] 71)).alloc (.cells #[.int .i64 c] 2)).alloc (.cells #[.int .i64 p] 2)).drew) = w2 at *
    go_upto_region 2 with fail
    refine wp_region_st (fun x => Own x w.heap.size #[.int .i64 a, .int .i64 b, .int .i64 p, .int .i64 c, .int .i64 n, .slice none 0 0] 71 ∧ Own x (w.heap.size + 1 + 1) #[.int .i64 p] 2) [(true, 0), (true, 1), (true, 2), (true, 5), (false, 3), (true, 4)] 6 (by kernel_rfl) (by kernel_rfl) ⟨oS.drewN 1, o5.drewN 1⟩ ?_
    have oSd : Own { w2 with drawn := w2.drawn + 1 } w.heap.size #[.int .i64 a, .int .i64 b, .int .i64 p, .int .i64 c, .int .i64 n, .slice none 0 0] 71 := oS
    have o5d : Own { w2 with drawn := w2.drawn + 1 }  (w.heap.size + 1 + 1) #[.int .i64 p] 2 := o5
    have o6d : Own { w2 with drawn := w2.drawn + 1 } (w.heap.size + 1) #[.int .i64 c] 2 := o6
    have bd : Below w.heap.size w { w2 with drawn := w2.drawn + 1 } := b2.drew
    clear oS o5 o6 b2
    generalize ({ w2 with drawn := w2.drawn + 1 } : World) = w3 at *
    simp only [List.map_cons, List.map_nil, opS'_mk, opN_zero, opN_succ, List.drop_succ_cons, List.drop_zero]
    (apply wpSt_read; · (intro wd hS K hK; have k0 : wd.cell? ⟨w.heap.size + 1 + 1, 0, none⟩ = some (.int .i64 p) := hS.2.cell 0; clear hS; go_simp; exact hK))
    (apply wpSt_read; · (intro wd hS K hK; rw [if_pos (by rfl)]; refine still_load_row 71 (.tmp 2) rfl w.heap.size rfl 71 #[.int .i64 a, .int .i64 b, .int .i64 p, .int .i64 c, .int .i64 n, .slice none 0 0] _ hS.1 Try.underlying71 rfl (by kernel_rfl) ?_; exact hK))
    iterate 2 (apply wpSt_read; · (intro wd hS K hK; clear hS; go_simp; exact hK))
    refine wpSt_keep (fun K hK => ?_)
    go_wp2_with (first
      | (go_at_call 47; ((with_reducible refine (hel.out w3 (hRx.out _ bd)).mono ?_); rintro e w4 ⟨⟨q, cp, rfl, hr⟩, hB4⟩)))
    have oS4 := oSd.below hB4 oSd.lt
    have o54 := o5d.below hB4 o5d.lt
    have o64 := o6d.below hB4 o6d.lt
    have b4 := bd.trans (hB4.mono bd.size)
    have hrr := Lib.hid hr
    refine hK _ _ ⟨oS4, o54⟩ rfl ?_
    clear hK K oSd o5d o6d hB4 bd hr
    (apply wpSt_read; · (intro wd hS K hK; clear hS; go_simp; exact hK))
    refine wpSt_nil ?_
    go_wp2_with (first
      | (go_at_call 96; ((with_reducible refine (hso.out q cp (w.heap.size + 1 + 1) (w.heap.size + 1) w4 (hrd.out _ _ _ hrr.out) o54 o64).mono ?_); rintro e w5 ⟨rfl, hB5⟩; have b5 := b4.trans (hB5.mono b4.size))))
    go_ret
    exact ⟨rfl, b5⟩
end Go.Proofs.Ytbibmncepjmgcaa
