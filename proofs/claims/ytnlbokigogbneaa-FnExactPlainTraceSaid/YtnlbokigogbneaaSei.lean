/- SpinEntry, the program's and the model's, and the law. -/
import Derived.Test.YtnlbokigogbneaaEns
import Derived.Test.YtnlbokigogbneaaLawD
namespace Go.Proofs.Ytnlbokigogbneaa
open Go.RowKit
set_option linter.unusedVariables false
/-- The code of two numbers and a diagram. -/
def codN (p q n : Int) (ms : List Int) (most : Int) : Int := if isD n ms = true then (if baseB p q = true ∧ n ≤ most then 0 else 2) else 1
theorem codN_0 {p q n : Int} {ms : List Int} {most : Int} (h : codN p q n ms most = 0) : isD n ms = true ∧ baseB p q = true ∧ n ≤ most := by
  unfold codN at h
  split at h
  · split at h
    · rename_i a b; exact ⟨a, b.1, b.2⟩
    · omega
  · omega
theorem codN_bd (p q n : Int) (ms : List Int) (most : Int) : 0 ≤ codN p q n ms most ∧ codN p q n ms most ≤ 2 := by
  unfold codN; split
  · split <;> omega
  · omega
set_option maxRecDepth 100000 in
set_option maxHeartbeats 1000000 in
theorem codI_any (p q n : Int) (ms : List Int) (most : Int) (hms : ms.length = 16) (hb : Bytes ms) (w : World) : Calls Try.prog 33 #[.int .i64 p, .int .i64 q, .agg (dcells n ms), .int .i64 most] w fun e w' => e = .returned (.int .i64 (codN p q n ms most)) ∧ Below w.heap.size w w' := by
  have hl := Lib.hid hms
  have hq := Lib.hid (fun w => baseI_any p q w)
  have hi := Lib.hid (fun w => isI_any n ms hms hb w)
  have c0 := dcells_zero n ms
  unfold codN
  clear hb
  cases hd : isD n ms with
  | false =>
    rw [hd] at hi
    rw [if_neg (by simp)]
    clear hd
    go_enter Try.func33, Try.ntmps33
    go_wp2_with (first
      | (refine wpList_load_row rfl 29 _ rfl _ rfl 29 _ (0, 0) _ (Own.new _ _ _) Try.underlying29 rfl (row26 (d17 _ _ (hl.out))) ?_)
      | (go_at_call 38; ((with_reducible refine (hi.out _).mono ?_); rintro e w1 ⟨rfl, hB1⟩)))
    go_ret
    exact ⟨rfl, ((Below.refl _ _).alloc (Nat.le_refl _) _).trans (hB1.mono (by simp))⟩
  | true =>
    rw [hd] at hi
    rw [if_pos rfl]
    clear hd
    have c1 := fun w1 (hB : Below (w.heap.size + 1) (w.alloc (.cells (dcells n ms) 29)) w1) => (((Own.new w (dcells n ms) 29).below hB (by simp)).cell 0).trans c0
    cases hbb : baseB p q with
    | false =>
      rw [hbb] at hq
      rw [if_neg (by simp)]
      clear hbb
      go_enter Try.func33, Try.ntmps33
      go_wp2_with (first
        | (refine wpList_load_row rfl 29 _ rfl _ rfl 29 _ (0, 0) _ (Own.new _ _ _) Try.underlying29 rfl (row26 (d17 _ _ (hl.out))) ?_)
        | (go_at_call 38; ((with_reducible refine (hi.out _).mono ?_); rintro e w1 ⟨rfl, hB1⟩))
        | (go_at_call 25; ((with_reducible refine (hq.out _).mono ?_); rintro e w2 ⟨rfl, rfl⟩)))
      go_ret
      exact ⟨rfl, ((Below.refl _ _).alloc (Nat.le_refl _) _).trans (hB1.mono (by simp))⟩
    | true =>
      rw [hbb] at hq
      clear hbb
      by_cases hm : n ≤ most
      · rw [if_pos ⟨rfl, hm⟩]
        go_enter Try.func33, Try.ntmps33
        go_wp2_with (first
          | (refine wpList_load_row rfl 29 _ rfl _ rfl 29 _ (0, 0) _ (Own.new _ _ _) Try.underlying29 rfl (row26 (d17 _ _ (hl.out))) ?_)
          | (go_at_call 38; ((with_reducible refine (hi.out _).mono ?_); rintro e w1 ⟨rfl, hB1⟩); have c2 := c1 w1 (by simpa using hB1))
          | (go_at_call 25; ((with_reducible refine (hq.out _).mono ?_); rintro e w2 ⟨rfl, rfl⟩)))
        go_ret
        exact ⟨rfl, ((Below.refl _ _).alloc (Nat.le_refl _) _).trans (hB1.mono (by simp))⟩
      · rw [if_neg (by simp; omega)]
        go_enter Try.func33, Try.ntmps33
        go_wp2_with (first
          | (refine wpList_load_row rfl 29 _ rfl _ rfl 29 _ (0, 0) _ (Own.new _ _ _) Try.underlying29 rfl (row26 (d17 _ _ (hl.out))) ?_)
          | (go_at_call 38; ((with_reducible refine (hi.out _).mono ?_); rintro e w1 ⟨rfl, hB1⟩); have c2 := c1 w1 (by simpa using hB1))
          | (go_at_call 25; ((with_reducible refine (hq.out _).mono ?_); rintro e w2 ⟨rfl, rfl⟩)))
        go_ret
        exact ⟨rfl, ((Below.refl _ _).alloc (Nat.le_refl _) _).trans (hB1.mono (by simp))⟩
set_option maxRecDepth 100000 in
set_option maxHeartbeats 1000000 in
theorem codS_any (p q n : Int) (ms : List Int) (most : Int) (hms : ms.length = 16) (hb : Bytes ms) (w : World) (hr : -9223372036854775808 ≤ p ∧ p ≤ 9223372036854775807) : Calls Try.prog 28 #[.int .i64 p, .int .i64 q, .agg (dcells n ms), .int .i64 most] w fun e w' => e = .returned (.int .i64 (codN p q n ms most)) ∧ Below w.heap.size w w' := by
  have hl := Lib.hid hms
  have hq := Lib.hid (fun w => numS_any p q w hr)
  have hi := Lib.hid (fun w => l01Is_dec n ms hms hb w)
  have c0 := dcells_zero n ms
  unfold codN
  clear hb
  cases hd : isD n ms with
  | false =>
    rw [hd] at hi
    rw [if_neg (by simp)]
    clear hd
    go_enter Try.func28, Try.ntmps28
    go_wp2_with (first
      | (refine wpList_load_row rfl 29 _ rfl _ rfl 29 _ (0, 0) _ (Own.new _ _ _) Try.underlying29 rfl (row26 (d17 _ _ (hl.out))) ?_)
      | (go_at_call 36; ((with_reducible refine (hi.out _).mono ?_); rintro e w1 ⟨rfl, hB1⟩)))
    go_ret
    exact ⟨rfl, ((Below.refl _ _).alloc (Nat.le_refl _) _).trans (hB1.mono (by simp))⟩
  | true =>
    rw [hd] at hi
    rw [if_pos rfl]
    clear hd
    have c1 := fun w1 (hB : Below (w.heap.size + 1) (w.alloc (.cells (dcells n ms) 29)) w1) => (((Own.new w (dcells n ms) 29).below hB (by simp)).cell 0).trans c0
    cases hbb : baseB p q with
    | false =>
      rw [hbb] at hq
      rw [if_neg (by simp)]
      clear hbb
      go_enter Try.func28, Try.ntmps28
      go_wp2_with (first
        | (refine wpList_load_row rfl 29 _ rfl _ rfl 29 _ (0, 0) _ (Own.new _ _ _) Try.underlying29 rfl (row26 (d17 _ _ (hl.out))) ?_)
        | (go_at_call 36; ((with_reducible refine (hi.out _).mono ?_); rintro e w1 ⟨rfl, hB1⟩))
        | (go_at_call 23; ((with_reducible refine (hq.out _).mono ?_); rintro e w2 ⟨rfl, rfl⟩)))
      go_ret
      exact ⟨rfl, ((Below.refl _ _).alloc (Nat.le_refl _) _).trans (hB1.mono (by simp))⟩
    | true =>
      rw [hbb] at hq
      clear hbb
      by_cases hm : n ≤ most
      · rw [if_pos ⟨rfl, hm⟩]
        go_enter Try.func28, Try.ntmps28
        go_wp2_with (first
          | (refine wpList_load_row rfl 29 _ rfl _ rfl 29 _ (0, 0) _ (Own.new _ _ _) Try.underlying29 rfl (row26 (d17 _ _ (hl.out))) ?_)
          | (go_at_call 36; ((with_reducible refine (hi.out _).mono ?_); rintro e w1 ⟨rfl, hB1⟩); have c2 := c1 w1 (by simpa using hB1))
          | (go_at_call 23; ((with_reducible refine (hq.out _).mono ?_); rintro e w2 ⟨rfl, rfl⟩)))
        go_ret
        exact ⟨rfl, ((Below.refl _ _).alloc (Nat.le_refl _) _).trans (hB1.mono (by simp))⟩
      · rw [if_neg (by simp; omega)]
        go_enter Try.func28, Try.ntmps28
        go_wp2_with (first
          | (refine wpList_load_row rfl 29 _ rfl _ rfl 29 _ (0, 0) _ (Own.new _ _ _) Try.underlying29 rfl (row26 (d17 _ _ (hl.out))) ?_)
          | (go_at_call 36; ((with_reducible refine (hi.out _).mono ?_); rintro e w1 ⟨rfl, hB1⟩); have c2 := c1 w1 (by simpa using hB1))
          | (go_at_call 23; ((with_reducible refine (hq.out _).mono ?_); rintro e w2 ⟨rfl, rfl⟩)))
        go_ret
        exact ⟨rfl, ((Below.refl _ _).alloc (Nat.le_refl _) _).trans (hB1.mono (by simp))⟩
theorem gen_spin {P : Program} {c : Code} {Q : Exit → Act → World → Prop} {a : Act} {W : World} (S : World → Prop) (h : S W) (k : ∀ x, S x → c.wp P Q a x) : c.wp P Q a W := k W h
/-- u is the number of a word. -/
def wdB (n u : Int) : Bool := decide (0 ≤ u ∧ u < 2 ^ n.toNat)
theorem two_bd (n : Int) (h1 : 0 ≤ n) (h8 : n ≤ 8) : 1 ≤ (2 : Int) ^ n.toNat ∧ (2 : Int) ^ n.toNat ≤ 256 := by
  obtain ⟨N, rfl⟩ : ∃ N : Nat, n = N := ⟨n.toNat, by omega⟩
  have h : N ≤ 8 := by omega
  rw [Int.toNat_natCast]
  have a : 2 ^ N ≤ 2 ^ 8 := Nat.pow_le_pow_right (by omega) h
  have b : 0 < 2 ^ N := Nat.pow_pos (by omega)
  have c : (2 : Int) ^ N = ((2 ^ N : Nat) : Int) := by push_cast; rfl
  omega
theorem shl_one (n : Int) (k : IntKind) (h1 : 0 ≤ n) (h8 : n ≤ 8) : (Op.shift .shl .i64 1 k n : Sem Value) = pure (.int .i64 (2 ^ n.toNat)) := by
  have b := two_bd n h1 h8
  rw [shift_shl .i64 k 1 n h1 (by show n ≤ 64; omega), Int.one_mul, IntWalk.i64_in _ (by omega)]
theorem cswI_any (n : Int) (w : World) (h1 : 0 ≤ n) (h8 : n ≤ 8) : Calls Try.prog 48 #[.int .i64 n] w fun e w' => e = .returned (.int .i64 (2 ^ n.toNat)) ∧ w' = w := by
  have hs := shl_one n .i64 h1 h8
  have b := two_bd n h1 h8
  have e : IntKind.i64.wrap (2 ^ n.toNat) = 2 ^ n.toNat := IntWalk.i64_in _ (by omega)
  have e2 : IntKind.i64.wrap (1 * 2 ^ n.toNat) = 2 ^ n.toNat := by rw [Int.one_mul]; exact e
  go_enter Try.func48, Try.ntmps48
  go_wp2
  go_ret
  exact ⟨by first | rfl | (simp only [Int.one_mul]; rfl), rfl⟩
theorem iswI_any (n u : Int) (w : World) (h1 : 0 ≤ n) (h8 : n ≤ 8) : Calls Try.prog 34 #[.int .i64 n, .int .i64 u] w fun e w' => e = .returned (.bool (wdB n u)) ∧ w' = w := by
  have hc := Lib.hid (fun w => cswI_any n w h1 h8)
  unfold wdB
  generalize (2 : Int) ^ n.toNat = X at *
  by_cases h : 0 ≤ u
  · by_cases h2 : u < X
    · rw [show decide (0 ≤ u ∧ u < X) = true by simp; omega]
      go_enter Try.func34, Try.ntmps34
      go_wp2_with (first
        | (go_at_call 48; ((with_reducible refine (hc.out _).mono ?_); rintro e w1 ⟨rfl, rfl⟩)))
      go_ret
      exact ⟨by first | rfl | (simp <;> omega), rfl⟩
    · rw [show decide (0 ≤ u ∧ u < X) = false by simp; omega]
      go_enter Try.func34, Try.ntmps34
      go_wp2_with (first
        | (go_at_call 48; ((with_reducible refine (hc.out _).mono ?_); rintro e w1 ⟨rfl, rfl⟩)))
      go_ret
      exact ⟨by first | rfl | (simp <;> omega), rfl⟩
  · rw [show decide (0 ≤ u ∧ u < X) = false by simp; omega]
    go_enter Try.func34, Try.ntmps34
    go_wp2_with (first
      | (go_at_call 48; ((with_reducible refine (hc.out _).mono ?_); rintro e w1 ⟨rfl, rfl⟩)))
    go_ret
    exact ⟨by first | rfl | (simp <;> omega), rfl⟩
set_option maxRecDepth 100000 in
set_option maxHeartbeats 1000000 in
theorem senI_code (p q n : Int) (ms : List Int) (hms : ms.length = 16) (hb : Bytes ms) (u v : Int) (w : World) (hc : codN p q n ms 8 ≠ 0) :
    Calls Try.prog 12 #[.int .i64 p, .int .i64 q, .agg (dcells n ms), .int .i64 u, .int .i64 v] w fun e w' => e = .returned (.tuple #[.int .i64 0, .int .i64 (codN p q n ms 8)]) ∧ Below w.heap.size w w' := by
  have hl := Lib.hid hms
  have hi := Lib.hid (fun w => codI_any p q n ms 8 hms hb w)
  obtain ⟨c, hcc⟩ : ∃ c, codN p q n ms 8 = c := ⟨_, rfl⟩
  rw [hcc] at hc hi ⊢
  clear hb hcc
  go_enter Try.func12, Try.ntmps12
  go_wp2_with (first
    | (refine wpList_load_row rfl 29 _ rfl _ rfl 29 _ (0, 0) _ (Own.new _ _ _) Try.underlying29 rfl (row26 (d17 _ _ (hl.out))) ?_)
    | (go_at_call 33; ((with_reducible refine (hi.out _).mono ?_); rintro e w1 ⟨rfl, hB1⟩)))
  go_ret2
  exact ⟨rfl, ((Below.refl _ _).alloc (Nat.le_refl _) _).trans (hB1.mono (by simp))⟩
set_option maxRecDepth 100000 in
set_option maxHeartbeats 1000000 in
theorem senI_word (p q n : Int) (ms : List Int) (hms : ms.length = 16) (hb : Bytes ms) (u v : Int) (w : World) (hc : codN p q n ms 8 = 0) (h : (wdB n u && wdB n v) = false) :
    Calls Try.prog 12 #[.int .i64 p, .int .i64 q, .agg (dcells n ms), .int .i64 u, .int .i64 v] w fun e w' => e = .returned (.tuple #[.int .i64 0, .int .i64 2]) ∧ Below w.heap.size w w' := by
  have hl := Lib.hid hms
  obtain ⟨hd, _, _⟩ := codN_0 hc
  obtain ⟨⟨h1, h8⟩, _⟩ := (isD_iff n ms hms hb).1 hd
  have hi := Lib.hid (fun w => codI_any p q n ms 8 hms hb w)
  rw [hc] at hi
  have hu := Lib.hid (fun w => iswI_any n u w (by omega) h8)
  have hv := Lib.hid (fun w => iswI_any n v w (by omega) h8)
  have c0 := dcells_zero n ms
  have c1 := fun w1 (hB : Below (w.heap.size + 1) (w.alloc (.cells (dcells n ms) 29)) w1) => (((Own.new w (dcells n ms) 29).below hB (by simp)).cell 0).trans c0
  clear hb hc hd
  cases hwu : wdB n u with
  | false =>
    rw [hwu] at hu
    clear h hwu
    go_enter Try.func12, Try.ntmps12
    go_wp2_with (first
      | (refine wpList_load_row rfl 29 _ rfl _ rfl 29 _ (0, 0) _ (Own.new _ _ _) Try.underlying29 rfl (row26 (d17 _ _ (hl.out))) ?_)
      | (go_at_call 34; ((with_reducible refine (hu.out _).mono ?_); rintro e w2 ⟨rfl, rfl⟩))
      | (go_at_call 33; ((with_reducible refine (hi.out _).mono ?_); rintro e w1 ⟨rfl, hB1⟩); have c2 := c1 w1 (by simpa using hB1)))
    go_ret2
    exact ⟨rfl, ((Below.refl _ _).alloc (Nat.le_refl _) _).trans (hB1.mono (by simp))⟩
  | true =>
    rw [hwu, Bool.true_and] at h
    rw [hwu] at hu
    rw [h] at hv
    clear h hwu
    · go_enter Try.func12, Try.ntmps12
      go_wp2_with (first
        | (refine wpList_load_row rfl 29 _ rfl _ rfl 29 _ (0, 0) _ (Own.new _ _ _) Try.underlying29 rfl (row26 (d17 _ _ (hl.out))) ?_)
        | (go_at_call 34; ((with_reducible refine (hu.out _).mono ?_); rintro e w2 ⟨rfl, rfl⟩))
        | (go_at_call 34; ((with_reducible refine (hv.out _).mono ?_); rintro e w3 ⟨rfl, rfl⟩))
        | (go_at_call 33; ((with_reducible refine (hi.out _).mono ?_); rintro e w1 ⟨rfl, hB1⟩); have c2 := c1 w1 (by simpa using hB1)))
      go_ret2
      exact ⟨rfl, ((Below.refl _ _).alloc (Nat.le_refl _) _).trans (hB1.mono (by simp))⟩
set_option maxRecDepth 100000 in
set_option maxHeartbeats 1000000 in
theorem senI_ok (p q n : Int) (ms : List Int) (hms : ms.length = 16) (hb : Bytes ms) (u v : Int) (w : World) (hc : codN p q n ms 8 = 0) (hwu : wdB n u = true) (hwv : wdB n v = true) :
    Calls Try.prog 12 #[.int .i64 p, .int .i64 q, .agg (dcells n ms), .int .i64 u, .int .i64 v] w fun e w' => e = .returned (.tuple #[.int .i64 (entN p q (rcp p q) n ms u v), .int .i64 0]) ∧ Below w.heap.size w w' := by
  have hl := Lib.hid hms
  obtain ⟨hd, hbs, _⟩ := codN_0 hc
  have hS := (isD_iff n ms hms hb).1 hd
  obtain ⟨h1, h8⟩ := hS.1
  obtain ⟨hpr, hp, hp2, a1, a2⟩ := baseB_t hbs
  have hr := rcp_pos p q hpr a1 a2
  have hu' := hwu
  have hv' := hwv
  unfold wdB at hu' hv'
  rw [decide_eq_true_iff] at hu' hv'
  have hi := Lib.hid (fun w => codI_any p q n ms 8 hms hb w)
  rw [hc] at hi
  have hu := Lib.hid (fun w => iswI_any n u w (by omega) h8)
  have hv := Lib.hid (fun w => iswI_any n v w (by omega) h8)
  rw [hwu] at hu
  rw [hwv] at hv
  have hn := Lib.hid (fun w => newI_any p q w hbs)
  have he := Lib.hid (fun w => entI_any p q (rcp p q) hp hp2 (by omega) (by omega) (by omega) (by omega) n ms hms hb hS u v hu'.1 hu'.2 hv'.1 hv'.2 w)
  generalize entN p q (rcp p q) n ms u v = E at *
  generalize rcp p q = r at *
  have c0 := dcells_zero n ms
  have c1 := fun w1 (hB : Below (w.heap.size + 1) (w.alloc (.cells (dcells n ms) 29)) w1) => (((Own.new w (dcells n ms) 29).below hB (by simp)).cell 0).trans c0
  clear hb hc hd hwu hwv hu' hv' hS hbs hpr
  go_enter Try.func12, Try.ntmps12
  go_upto_region 6 with (first
    | (refine wpList_load_row rfl 29 _ rfl _ rfl 29 _ (0, 0) _ (Own.new _ _ _) Try.underlying29 rfl (row26 (d17 _ _ (hl.out))) ?_)
    | (go_at_call 34; ((with_reducible refine (hu.out _).mono ?_); rintro e w2 ⟨rfl, rfl⟩))
    | (go_at_call 34; ((with_reducible refine (hv.out _).mono ?_); rintro e w3 ⟨rfl, rfl⟩))
    | (go_at_call 33; ((with_reducible refine (hi.out _).mono ?_); rintro e w1 ⟨rfl, hB1⟩); have c2 := c1 w1 (by simpa using hB1)))
  refine gen_spin (fun x => Own x w.heap.size (dcells n ms) 29 ∧ Below w.heap.size w x) ⟨(Own.new w _ _).below (by simpa using hB1) (by simp), ((Below.refl _ _).alloc (Nat.le_refl _) _).trans (hB1.mono (by simp))⟩ ?_
  rintro x ⟨hO, hB⟩
  clear hB1 c2 c1 c0
  refine wp_region_st (fun x => Own x w.heap.size (dcells n ms) 29) [(true, 0), (true, 1), (true, 3), (true, 4), (true, 5), (false, 2)] 6 (by kernel_rfl) (by kernel_rfl) (hO.drewN 1) ?_
  have hOd : Own { x with drawn := x.drawn + 1 } w.heap.size (dcells n ms) 29 := hO
  have hBd : Below w.heap.size w { x with drawn := x.drawn + 1 } := hB.drew
  clear hO hB
  generalize ({ x with drawn := x.drawn + 1 } : World) = w3 at *
  simp only [List.map_cons, List.map_nil, opS'_mk, opN_zero, opN_succ, List.drop_succ_cons, List.drop_zero]
  (apply wpSt_read; · (intro wd hS K hK; clear hS; go_simp; exact hK))
  (apply wpSt_read; · (intro wd hS K hK; clear hS; go_simp; exact hK))
  (apply wpSt_read; · (intro wd hS K hK; rw [if_pos (by rfl)]; refine still_load_row 29 (.tmp 7) rfl w.heap.size rfl 29 (dcells n ms) _ hS Try.underlying29 rfl (row26 (d17 _ _ hl.out)) ?_; exact hK))
  (apply wpSt_read; · (intro wd hS K hK; clear hS; go_simp; exact hK))
  (apply wpSt_read; · (intro wd hS K hK; clear hS; go_simp; exact hK))
  refine wpSt_keep (fun K hK => ?_)
  go_wp2_with (first
    | (go_at_call 26; ((with_reducible refine (hn.out w3).mono ?_); rintro e w4 ⟨rfl, hB4⟩)))
  refine hK _ _ (hOd.below hB4 hOd.lt) rfl ?_
  clear hK K
  have b4 : Below w.heap.size w w4 := hBd.trans (hB4.mono hBd.size)
  clear hOd hBd hB4
  refine wpSt_nil ?_
  go_wp2_with (first
    | (go_at_call 35; ((with_reducible refine (he.out w4).mono ?_); rintro e w5 ⟨rfl, hB5⟩)))
  go_ret2
  exact ⟨rfl, b4.trans (hB5.mono b4.size)⟩
end Go.Proofs.Ytnlbokigogbneaa
