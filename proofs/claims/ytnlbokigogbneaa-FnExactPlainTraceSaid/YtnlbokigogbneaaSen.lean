/- SpinEntry, the model's, and the law. -/
import Derived.Test.YtnlbokigogbneaaSei
namespace Go.Proofs.Ytnlbokigogbneaa
open Go.RowKit
set_option linter.unusedVariables false
theorem mm_bd (n : Int) : 0 ≤ min (max n 0) 8 ∧ min (max n 0) 8 ≤ 8 := by omega
theorem mm_in (n : Int) (h1 : 0 ≤ n) (h8 : n ≤ 8) : min (max n 0) 8 = n := by omega
set_option maxRecDepth 100000 in
set_option maxHeartbeats 1000000 in
theorem senS_code (p q n : Int) (ms : List Int) (hms : ms.length = 16) (hb : Bytes ms) (u v : Int) (w : World) (hr : -9223372036854775808 ≤ p ∧ p ≤ 9223372036854775807) (hc : codN p q n ms 8 ≠ 0) :
    Calls Try.prog 10 #[.int .i64 p, .int .i64 q, .agg (dcells n ms), .int .i64 u, .int .i64 v] w fun e w' => e = .returned (.tuple #[.int .i64 0, .int .i64 (codN p q n ms 8)]) ∧ Below w.heap.size w w' := by
  have hl := Lib.hid hms
  have hi := Lib.hid (fun w => codS_any p q n ms 8 hms hb w hr)
  obtain ⟨c, hcc⟩ : ∃ c, codN p q n ms 8 = c := ⟨_, rfl⟩
  rw [hcc] at hc hi ⊢
  have c0 := dcells_zero n ms
  have c1 := fun w1 (hB : Below (w.heap.size + 1) (w.alloc (.cells (dcells n ms) 29)) w1) => (((Own.new w (dcells n ms) 29).below hB (by simp)).cell 0).trans c0
  have k0 : (c == 0) = false := by simpa using hc
  clear hb hcc c0
  go_enter Try.func10, Try.ntmps10
  go_wp2_with (first
    | (refine wpList_load_row rfl 29 _ rfl _ rfl 29 _ (0, 0) _ (Own.new _ _ _) Try.underlying29 rfl (row26 (d17 _ _ (hl.out))) ?_)
    | (go_at_call 28; ((with_reducible refine (hi.out _).mono ?_); rintro e w1 ⟨rfl, hB1⟩); have c2 := c1 w1 (by simpa using hB1)))
  all_goals (go_ret2; exact ⟨rfl, ((Below.refl _ _).alloc (Nat.le_refl _) _).trans (hB1.mono (by simp))⟩)
set_option maxRecDepth 100000 in
set_option maxHeartbeats 1000000 in
theorem senS_word (p q n : Int) (ms : List Int) (hms : ms.length = 16) (hb : Bytes ms) (u v : Int) (w : World) (hr : -9223372036854775808 ≤ p ∧ p ≤ 9223372036854775807) (hc : codN p q n ms 8 = 0) (h : (wdB n u && wdB n v) = false) :
    Calls Try.prog 10 #[.int .i64 p, .int .i64 q, .agg (dcells n ms), .int .i64 u, .int .i64 v] w fun e w' => e = .returned (.tuple #[.int .i64 0, .int .i64 2]) ∧ Below w.heap.size w w' := by
  have hl := Lib.hid hms
  obtain ⟨hd, hbs, _⟩ := codN_0 hc
  have hS := (isD_iff n ms hms hb).1 hd
  obtain ⟨h1, h8⟩ := hS.1
  have hi := Lib.hid (fun w => codS_any p q n ms 8 hms hb w hr)
  rw [hc] at hi
  have c0 := dcells_zero n ms
  have c1 := fun w1 (hB : Below (w.heap.size + 1) (w.alloc (.cells (dcells n ms) 29)) w1) => (((Own.new w (dcells n ms) 29).below hB (by simp)).cell 0).trans c0
  have bd := two_bd n (by omega) h8
  have e : IntKind.i64.wrap (2 ^ n.toNat) = 2 ^ n.toNat := IntWalk.i64_in _ (by omega)
  have e2 : IntKind.i64.wrap (1 * 2 ^ n.toNat) = 2 ^ n.toNat := by rw [Int.one_mul]; exact e
  have e3 : IntKind.i64.wrap (2 ^ n.toNat - 1) = 2 ^ n.toNat - 1 := IntWalk.i64_in _ (by omega)
  clear hb hc hd c0 hS hbs
  cases hwu : wdB n u with
  | false =>
    unfold wdB at hwu
    rw [decide_eq_false_iff_not] at hwu
    have hu := Lib.hid (fun w => inS_f u 0 (2 ^ n.toNat - 1) w (by omega))
    clear h hwu
    go_enter Try.func10, Try.ntmps10
    go_wp2_with (first
      | (refine wpList_load_row rfl 29 _ rfl _ rfl 29 _ (0, 0) _ (Own.new _ _ _) Try.underlying29 rfl (row26 (d17 _ _ (hl.out))) ?_)
      | (go_at_call 29; ((with_reducible refine (hu.out _).mono ?_); rintro e w2 ⟨rfl, rfl⟩))
      | (go_at_call 28; ((with_reducible refine (hi.out _).mono ?_); rintro e w1 ⟨rfl, hB1⟩); have c2 := c1 w1 (by simpa using hB1)))
    all_goals (go_ret2; exact ⟨rfl, ((Below.refl _ _).alloc (Nat.le_refl _) _).trans (hB1.mono (by simp))⟩)
  | true =>
    rw [hwu, Bool.true_and] at h
    unfold wdB at hwu h
    rw [decide_eq_false_iff_not] at h
    rw [decide_eq_true_iff] at hwu
    have hu := Lib.hid (fun w => inS_t u 0 (2 ^ n.toNat - 1) w (by omega) (by omega))
    have hv := Lib.hid (fun w => inS_f v 0 (2 ^ n.toNat - 1) w (by omega))
    clear h hwu
    go_enter Try.func10, Try.ntmps10
    go_wp2_with (first
      | (refine wpList_load_row rfl 29 _ rfl _ rfl 29 _ (0, 0) _ (Own.new _ _ _) Try.underlying29 rfl (row26 (d17 _ _ (hl.out))) ?_)
      | (go_at_call 29; ((with_reducible refine (hu.out _).mono ?_); rintro e w2 ⟨rfl, rfl⟩))
      | (go_at_call 29; ((with_reducible refine (hv.out _).mono ?_); rintro e w3 ⟨rfl, rfl⟩))
      | (go_at_call 28; ((with_reducible refine (hi.out _).mono ?_); rintro e w1 ⟨rfl, hB1⟩); have c2 := c1 w1 (by simpa using hB1)))
    all_goals (go_ret2; exact ⟨rfl, ((Below.refl _ _).alloc (Nat.le_refl _) _).trans (hB1.mono (by simp))⟩)
set_option maxRecDepth 100000 in
set_option maxHeartbeats 1000000 in
theorem senS_ok (p q n : Int) (ms : List Int) (hms : ms.length = 16) (hb : Bytes ms) (u v : Int) (w : World) (hr : -9223372036854775808 ≤ p ∧ p ≤ 9223372036854775807) (hc : codN p q n ms 8 = 0) (hwu : wdB n u = true) (hwv : wdB n v = true) :
    Calls Try.prog 10 #[.int .i64 p, .int .i64 q, .agg (dcells n ms), .int .i64 u, .int .i64 v] w fun e w' => e = .returned (.tuple #[.int .i64 (entN p q (rcp p q) n ms u v), .int .i64 0]) ∧ Below w.heap.size w w' := by
  have hl := Lib.hid hms
  obtain ⟨hd, hbs, _⟩ := codN_0 hc
  have hS := (isD_iff n ms hms hb).1 hd
  obtain ⟨h1, h8⟩ := hS.1
  have hi := Lib.hid (fun w => codS_any p q n ms 8 hms hb w hr)
  rw [hc] at hi
  have c0 := dcells_zero n ms
  have c1 := fun w1 (hB : Below (w.heap.size + 1) (w.alloc (.cells (dcells n ms) 29)) w1) => (((Own.new w (dcells n ms) 29).below hB (by simp)).cell 0).trans c0
  have bd := two_bd n (by omega) h8
  have e : IntKind.i64.wrap (2 ^ n.toNat) = 2 ^ n.toNat := IntWalk.i64_in _ (by omega)
  have e2 : IntKind.i64.wrap (1 * 2 ^ n.toNat) = 2 ^ n.toNat := by rw [Int.one_mul]; exact e
  have e3 : IntKind.i64.wrap (2 ^ n.toNat - 1) = 2 ^ n.toNat - 1 := IntWalk.i64_in _ (by omega)
  obtain ⟨hpr, hp, hp2, a1, a2⟩ := baseB_t hbs
  have hrr := rcp_pos p q hpr a1 a2
  unfold wdB at hwu hwv
  rw [decide_eq_true_iff] at hwu hwv
  have hu := Lib.hid (fun w => inS_t u 0 (2 ^ n.toNat - 1) w (by omega) (by omega))
  have hv := Lib.hid (fun w => inS_t v 0 (2 ^ n.toNat - 1) w (by omega) (by omega))
  have hn := Lib.hid (fun w => (invS_any p q w hpr a1 a2).mono fun e w' h => (show e = .returned (.int .i64 (rcp p q)) ∧ w' = w from ⟨h.1, h.2.symm⟩))
  have he := Lib.hid (fun w => entS_any p q (rcp p q) hp hp2 (by omega) (by omega) (by omega) (by omega) n ms hms hb hS u v hwu.1 (by omega) hwv.1 (by omega) w)
  generalize entN p q (rcp p q) n ms u v = E at *
  generalize rcp p q = r at *
  clear hb hc hd hwu hwv hS hbs hpr c0
  go_enter Try.func10, Try.ntmps10
  go_upto_region 7 with (first
    | (refine wpList_load_row rfl 29 _ rfl _ rfl 29 _ (0, 0) _ (Own.new _ _ _) Try.underlying29 rfl (row26 (d17 _ _ (hl.out))) ?_)
    | (go_at_call 29; ((with_reducible refine (hu.out _).mono ?_); rintro e w2 ⟨rfl, rfl⟩))
    | (go_at_call 29; ((with_reducible refine (hv.out _).mono ?_); rintro e w3 ⟨rfl, rfl⟩))
    | (go_at_call 28; ((with_reducible refine (hi.out _).mono ?_); rintro e w1 ⟨rfl, hB1⟩); have c2 := c1 w1 (by simpa using hB1)))
  refine gen_spin (fun x => Own x w.heap.size (dcells n ms) 29 ∧ Below w.heap.size w x) ⟨(Own.new w _ _).below (by simpa using hB1) (by simp), ((Below.refl _ _).alloc (Nat.le_refl _) _).trans (hB1.mono (by simp))⟩ ?_
  rintro x ⟨hO, hB⟩
  clear hB1 c2 c1
  refine wp_region_st (fun x => Own x w.heap.size (dcells n ms) 29) [(true, 0), (true, 1), (true, 2), (true, 3), (true, 5), (true, 6), (true, 7), (false, 4)] 8 (by kernel_rfl) (by kernel_rfl) (hO.drewN 1) ?_
  have hOd : Own { x with drawn := x.drawn + 1 } w.heap.size (dcells n ms) 29 := hO
  have hBd : Below w.heap.size w { x with drawn := x.drawn + 1 } := hB.drew
  clear hO hB
  generalize ({ x with drawn := x.drawn + 1 } : World) = w3 at *
  simp only [List.map_cons, List.map_nil, opS'_mk, opN_zero, opN_succ, List.drop_succ_cons, List.drop_zero]
  (apply wpSt_read; · (intro wd hS K hK; clear hS; go_simp; exact hK))
  (apply wpSt_read; · (intro wd hS K hK; clear hS; go_simp; exact hK))
  (apply wpSt_read; · (intro wd hS K hK; clear hS; go_simp; exact hK))
  (apply wpSt_read; · (intro wd hS K hK; clear hS; go_simp; exact hK))
  (apply wpSt_read; · (intro wd hS K hK; rw [if_pos (by rfl)]; refine still_load_row 29 (.tmp 7) rfl w.heap.size rfl 29 (dcells n ms) _ hS Try.underlying29 rfl (row26 (d17 _ _ hl.out)) ?_; exact hK))
  (apply wpSt_read; · (intro wd hS K hK; clear hS; go_simp; exact hK))
  (apply wpSt_read; · (intro wd hS K hK; clear hS; go_simp; exact hK))
  refine wpSt_keep (fun K hK => ?_)
  go_wp2_with (first
    | (go_at_call 31; ((with_reducible refine (hn.out _).mono ?_); rintro e w4 ⟨rfl, rfl⟩)))
  refine hK _ _ hOd rfl ?_
  clear hK K
  refine wpSt_nil ?_
  go_wp2_with (first
    | (go_at_call 30; ((with_reducible refine (he.out _).mono ?_); rintro e w5 ⟨rfl, hB5⟩)))
  go_ret2
  exact ⟨rfl, hBd.trans (hB5.mono hBd.size)⟩
theorem sen_both (p q n : Int) (ms : List Int) (hms : ms.length = 16) (hb : Bytes ms) (u v : Int) (hr : -9223372036854775808 ≤ p ∧ p ≤ 9223372036854775807) : ∃ x y : Int, (∀ w, Calls Try.prog 10 #[.int .i64 p, .int .i64 q, .agg (dcells n ms), .int .i64 u, .int .i64 v] w fun e w' => e = .returned (.tuple #[.int .i64 x, .int .i64 y]) ∧ Below w.heap.size w w')
    ∧ (∀ w, Calls Try.prog 12 #[.int .i64 p, .int .i64 q, .agg (dcells n ms), .int .i64 u, .int .i64 v] w fun e w' => e = .returned (.tuple #[.int .i64 x, .int .i64 y]) ∧ Below w.heap.size w w') := by
  by_cases hc : codN p q n ms 8 = 0
  · cases h : (wdB n u && wdB n v) with
    | true =>
      rw [Bool.and_eq_true] at h
      exact ⟨_, _, fun w => senS_ok p q n ms hms hb u v w hr hc h.1 h.2, fun w => senI_ok p q n ms hms hb u v w hc h.1 h.2⟩
    | false => exact ⟨_, _, fun w => senS_word p q n ms hms hb u v w hr hc h, fun w => senI_word p q n ms hms hb u v w hc h⟩
  · exact ⟨_, _, fun w => senS_code p q n ms hms hb u v w hr hc, fun w => senI_code p q n ms hms hb u v w hc⟩
set_option maxRecDepth 100000 in
theorem sen_law (p q n : Int) (ms : List Int) (hms : ms.length = 16) (hb : Bytes ms) (u v : Int) (w : World) (hr : -9223372036854775808 ≤ p ∧ p ≤ 9223372036854775807) :
    Calls Try.prog 4 #[.int .i64 p, .int .i64 q, .agg (dcells n ms), .int .i64 u, .int .i64 v] w fun e w' => e = .returned (.bool true) ∧ Below w.heap.size w w' := by
  obtain ⟨x, y, hS0, hI0⟩ := sen_both p q n ms hms hb u v hr
  have hl := Lib.hid hms
  have hS' := Lib.hid hS0
  have hI' := Lib.hid hI0
  clear hms hb hS0 hI0 hr
  go_enter Try.func4, Try.ntmps4
  go_wp2_with (first
    | (refine wpList_load_row rfl 27 _ rfl _ rfl 27 _ (0, 0) _ (Own.new _ _ _) Try.underlying27 rfl (row50 (d17 _ _ (hl.out))) ?_)
    | (go_at_call 10; ((with_reducible refine (hS'.out _).mono ?_); rintro e w2 ⟨rfl, hB2⟩))
    | (go_at_call 12; ((with_reducible refine (hI'.out _).mono ?_); rintro e w4 ⟨rfl, hB4⟩))
    | (go_at_call 11; ((with_reducible refine (toD_any n ms hl.out w2).mono ?_); rintro e w3 ⟨rfl, hB3⟩))
    | (go_at_call 11; ((with_reducible refine (toD_any n ms hl.out _).mono ?_); rintro e w1 ⟨rfl, hB1⟩))
    | (refine wpList_load_row rfl 27 _ rfl _ rfl 27 _ (0, 0) _ (((Own.new _ _ _).below hB1 (by simp)).below hB2 (Nat.lt_of_lt_of_le (by simp) hB1.size)) Try.underlying27 rfl (row50 (d17 _ _ (hl.out))) ?_))
  go_ret
  have b0 : Below w.heap.size w (w.alloc (.cells (dcells n ms) 27)) := (Below.refl _ _).alloc (Nat.le_refl _) _
  have b1 := b0.trans (hB1.mono b0.size)
  have b2 := b1.trans (hB2.mono b1.size)
  have b3 := b2.trans (hB3.mono b2.size)
  exact ⟨rfl, b3.trans (hB4.mono b3.size)⟩
end Go.Proofs.Ytnlbokigogbneaa
