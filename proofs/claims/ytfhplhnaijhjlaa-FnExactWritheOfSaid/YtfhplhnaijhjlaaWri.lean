/- Writhes: program, model and law. -/
import Derived.Test.YtfhplhnaijhjlaaBrd
import Derived.Test.YtfhplhnaijhjlaaMark
namespace Go.Proofs.Ytfhplhnaijhjlaa
open Go.RowKit
set_option linter.unusedVariables false
/-- The writhe of a list. -/
def wri : List Int → Int
  | [] => 0
  | x :: l => wri l + (if 0 < x then 1 else -1)
theorem wri_bd : ∀ l : List Int, -(l.length : Int) ≤ wri l ∧ wri l ≤ l.length
  | [] => by simp [wri]
  | x :: l => by have := wri_bd l; simp only [wri, List.length_cons]; split <;> omega
theorem wri_rev (l : List Int) (x : Int) : wri (l ++ [x]) = wri l + (if 0 < x then 1 else -1) := by
  induction l with
  | nil => rfl
  | cons y l ih => simp only [List.cons_append, wri, ih]; omega
theorem wri_step (xs : List Int) (k : Nat) (h : k < xs.length) : wri (xs.take (k + 1)) = wri (xs.take k) + (if 0 < xs.getD k 0 then 1 else -1) := by
  rw [List.take_succ_eq_append_getElem h, wri_rev, List.getD_eq_getElem?_getD, List.getElem?_eq_getElem h]; rfl
set_option maxRecDepth 100000 in
theorem wriI_any (p : Option Addr) (cap : Nat) (xs : List Int) (w : World) (hx : xs.length ≤ 1000) (hR : Rd w p xs) :
    Calls Try.prog 35 #[.slice p xs.length cap] w fun e w' => e = .returned (.int .i64 (wri xs)) ∧ w' = w := by
  obtain ⟨m, hm⟩ : ∃ m, xs.length = m := ⟨_, rfl⟩
  have hR' := Lib.hid hR
  have hN := Lib.hid hm
  have hend := Lib.hid (show wri (xs.take m) = wri xs by rw [List.take_of_length_le (by omega)])
  rw [hm] at hx ⊢
  clear hR hm
  go_enter Try.func35, Try.ntmps35
  go_wp2
  go_loopw [3, 8] (fun v i wr => ∃ k : Nat, k ≤ m ∧ i = .int .i64 k ∧ v = .int .i64 (wri (xs.take k)) ∧ wr = w) (fun _ i _ => ((m : Int) - intOf i).toNat)
  case atStart => exact ⟨0, by omega, rfl, by simp [wri], rfl⟩
  case round =>
    obtain ⟨k, hk, rfl, rfl, rfl⟩ := hrel
    by_cases hlt : k < m
    · have hks : k < xs.length := by have := hN.out; omega
      obtain ⟨a, rfl⟩ := rd_some hR'.out hks
      have c1 := hR'.out.cell a rfl k hks
      have hst := wri_step xs k hks
      have hbd := wri_bd (xs.take k)
      rw [List.length_take] at hbd
      obtain ⟨x, hxx⟩ : ∃ x, xs.getD k 0 = x := ⟨_, rfl⟩
      rw [hxx] at c1 hst
      have i1 : (k : Int) < (m : Int) := by omega
      have hst' := Lib.hid hst
      have v0 : -1000 ≤ wri (xs.take k) ∧ wri (xs.take k) ≤ 1000 := by omega
      clear hst hxx hbd
      obtain ⟨v, hv⟩ : ∃ v, wri (xs.take k) = v := ⟨_, rfl⟩
      have hv' := Lib.hid hv
      rw [hv] at v0 ⊢
      clear hv
      by_cases g : 0 < x
      · go_wp2
        go_roundw
        case rel => exact ⟨k + 1, by omega, by go_num, by rw [hst'.out, hv'.out, if_pos g], trivial⟩
        case measure => simp [intOf]; omega
      · go_wp2
        go_roundw
        case rel => exact ⟨k + 1, by omega, by go_num, by rw [hst'.out, hv'.out, if_neg g]; rfl, trivial⟩
        case measure => simp [intOf]; omega
    · obtain rfl : k = m := by omega
      go_wp2
      go_ret
      exact ⟨by rw [hend.out]; rfl, rfl⟩
set_option maxRecDepth 100000 in
theorem wriS_any (p : Option Addr) (cap : Nat) (xs : List Int) (w : World) (hx : xs.length ≤ 1000) (hR : Rd w p xs) :
    Calls Try.prog 33 #[.slice p xs.length cap] w fun e w' => e = .returned (.int .i64 (wri xs)) ∧ w' = w := by
  obtain ⟨m, hm⟩ : ∃ m, xs.length = m := ⟨_, rfl⟩
  have hR' := Lib.hid hR
  have hN := Lib.hid hm
  have hend := Lib.hid (show wri (xs.take m) = wri xs by rw [List.take_of_length_le (by omega)])
  rw [hm] at hx ⊢
  clear hR hm
  go_enter Try.func33, Try.ntmps33
  go_wp2
  go_loopw [3, 4] (fun v i wr => ∃ k : Nat, k ≤ m ∧ i = .int .i64 k ∧ v = .int .i64 (wri (xs.take k)) ∧ wr = w) (fun _ i _ => ((m : Int) - intOf i).toNat)
  case atStart => exact ⟨0, by omega, rfl, by simp [wri], rfl⟩
  case round =>
    obtain ⟨k, hk, rfl, rfl, rfl⟩ := hrel
    by_cases hlt : k < m
    · have hks : k < xs.length := by have := hN.out; omega
      obtain ⟨a, rfl⟩ := rd_some hR'.out hks
      have c1 := hR'.out.cell a rfl k hks
      have hst := wri_step xs k hks
      have hbd := wri_bd (xs.take k)
      rw [List.length_take] at hbd
      obtain ⟨x, hxx⟩ : ∃ x, xs.getD k 0 = x := ⟨_, rfl⟩
      rw [hxx] at c1 hst
      have i1 : (k : Int) < (m : Int) := by omega
      have hst' := Lib.hid hst
      have v0 : -1000 ≤ wri (xs.take k) ∧ wri (xs.take k) ≤ 1000 := by omega
      clear hst hxx hbd
      obtain ⟨v, hv⟩ : ∃ v, wri (xs.take k) = v := ⟨_, rfl⟩
      have hv' := Lib.hid hv
      rw [hv] at v0 ⊢
      clear hv
      by_cases g : 0 < x
      · go_wp2
        go_roundw
        case rel => exact ⟨k + 1, by omega, by go_num, by rw [hst'.out, hv'.out, if_pos g], trivial⟩
        case measure => simp [intOf]; omega
      · go_wp2
        go_roundw
        case rel => exact ⟨k + 1, by omega, by go_num, by rw [hst'.out, hv'.out, if_neg g]; rfl, trivial⟩
        case measure => simp [intOf]; omega
    · obtain rfl : k = m := by omega
      go_wp2
      go_ret
      exact ⟨by rw [hend.out]; rfl, rfl⟩
set_option maxRecDepth 100000 in
theorem writheI_ok (n : Int) (p : Option Addr) (cap : Nat) (xs : List Int) (w : World) (hx : xs.length ≤ 1048576) (hR : Rd w p xs) (h : brdB n xs = true) :
    Calls Try.prog 14 #[.int .i64 n, .slice p xs.length cap] w fun e w' => e = .returned (.tuple #[.int .i64 (wri xs), .int .i64 0]) ∧ Below w.heap.size w w' := by
  have hc := Lib.hid (fun w hR => isBraidI_any n p cap xs w hx hR)
  rw [h] at hc
  have hR' := Lib.hid hR
  have hw := Lib.hid (fun w hR => wriI_any p cap xs w (by have := (brdB_t h).1; omega) hR)
  obtain ⟨v, hv⟩ : ∃ v, wri xs = v := ⟨_, rfl⟩
  rw [hv] at hw ⊢
  clear hv
  clear hR h
  go_enter Try.func14, Try.ntmps14
  go_wp2_with (first
    | (go_at_call 34; ((with_reducible refine (hc.out _ hR'.out).mono ?_); rintro e w1 ⟨rfl, rfl⟩))
    | (go_at_call 35; ((with_reducible refine (hw.out _ hR'.out).mono ?_); rintro e w1 ⟨rfl, rfl⟩)))
  go_ret2
  exact ⟨rfl, Below.refl _ _⟩
set_option maxRecDepth 100000 in
theorem writheI_bad (n : Int) (p : Option Addr) (cap : Nat) (xs : List Int) (w : World) (hx : xs.length ≤ 1048576) (hR : Rd w p xs) (h : brdB n xs = false) :
    Calls Try.prog 14 #[.int .i64 n, .slice p xs.length cap] w fun e w' => e = .returned (.tuple #[.int .i64 0, .int .i64 2]) ∧ Below w.heap.size w w' := by
  have hc := Lib.hid (fun w hR => isBraidI_any n p cap xs w hx hR)
  rw [h] at hc
  have hR' := Lib.hid hR
  clear hR h
  go_enter Try.func14, Try.ntmps14
  go_wp2_with (first
    | (go_at_call 34; ((with_reducible refine (hc.out _ hR'.out).mono ?_); rintro e w1 ⟨rfl, rfl⟩)))
  go_ret2
  exact ⟨rfl, Below.refl _ _⟩
set_option maxRecDepth 100000 in
theorem writheS_ok (n : Int) (p : Option Addr) (cap : Nat) (xs : List Int) (w : World) (hx : xs.length ≤ 1048576) (hR : Rd w p xs) (h : brdB n xs = true) :
    Calls Try.prog 12 #[.int .i64 n, .slice p xs.length cap] w fun e w' => e = .returned (.tuple #[.int .i64 (wri xs), .int .i64 0]) ∧ Below w.heap.size w w' := by
  have hc := Lib.hid (fun w hR => isBraidS_any n p cap xs w hx hR)
  rw [h] at hc
  have hR' := Lib.hid hR
  have hw := Lib.hid (fun w hR => wriS_any p cap xs w (by have := (brdB_t h).1; omega) hR)
  obtain ⟨v, hv⟩ : ∃ v, wri xs = v := ⟨_, rfl⟩
  rw [hv] at hw ⊢
  clear hv
  clear hR h
  go_enter Try.func12, Try.ntmps12
  go_wp2_with (first
    | (go_at_call 32; ((with_reducible refine (hc.out _ hR'.out).mono ?_); rintro e w1 ⟨rfl, rfl⟩))
    | (go_at_call 33; ((with_reducible refine (hw.out _ hR'.out).mono ?_); rintro e w1 ⟨rfl, rfl⟩)))
  go_ret2
  exact ⟨rfl, Below.refl _ _⟩
set_option maxRecDepth 100000 in
theorem writheS_bad (n : Int) (p : Option Addr) (cap : Nat) (xs : List Int) (w : World) (hx : xs.length ≤ 1048576) (hR : Rd w p xs) (h : brdB n xs = false) :
    Calls Try.prog 12 #[.int .i64 n, .slice p xs.length cap] w fun e w' => e = .returned (.tuple #[.int .i64 0, .int .i64 2]) ∧ Below w.heap.size w w' := by
  have hc := Lib.hid (fun w hR => isBraidS_any n p cap xs w hx hR)
  rw [h] at hc
  have hR' := Lib.hid hR
  clear hR h
  go_enter Try.func12, Try.ntmps12
  go_wp2_with (first
    | (go_at_call 32; ((with_reducible refine (hc.out _ hR'.out).mono ?_); rintro e w1 ⟨rfl, rfl⟩)))
  go_ret2
  exact ⟨rfl, Below.refl _ _⟩
set_option maxRecDepth 100000 in
set_option maxHeartbeats 4000000 in
theorem writhe_walk (n : Int) (p : Option Addr) (cap : Nat) (xs : List Int) (w : World) (hx : xs.length ≤ 1048576) (hR : Rd w p xs) (x y : Int)
    (hS : ∀ w q, Rd w q xs → Calls Try.prog 12 #[.int .i64 n, .slice q xs.length xs.length] w fun e w' => e = .returned (.tuple #[.int .i64 x, .int .i64 y]) ∧ Below w.heap.size w w')
    (hI : ∀ w q, Rd w q xs → Calls Try.prog 14 #[.int .i64 n, .slice q xs.length xs.length] w fun e w' => e = .returned (.tuple #[.int .i64 x, .int .i64 y]) ∧ Below w.heap.size w w') :
    Calls Try.prog 4 #[.int .i64 n, .slice p xs.length cap] w fun e w' => e = .returned (.bool true) ∧ Below w.heap.size w w' := by
  obtain ⟨l0, hm0⟩ : ∃ m, xs.length = m := ⟨_, rfl⟩
  have he0 := Lib.hid (fun p q cap cap' w hR hQ => eqI_same p q cap cap' xs (by omega) w hR hQ)
  have hc := Lib.hid (fun w hR => toI_any p cap xs hx w hR)
  have hS' := Lib.hid hS
  have hI' := Lib.hid hI
  have hR' := Lib.hid hR
  have hx' : ¬ (1048576 : Int) < (l0 : Int) := by omega
  rw [hm0] at he0 hc hS' hI' ⊢
  clear hS hI hm0 hR hx
  go_enter Try.func4, Try.ntmps4
  go_wp2_with (first
    | (go_at_call 15; ((with_reducible refine (he0.out _ _ _ _ w5 (Rd.own (hO34.below hB5 hO34.lt)) (Rd.own hO5)).mono ?_); rintro e w6 ⟨rfl, hB6⟩; have b6 := b5.trans (hB6.mono b5.size)))
    | (go_at_call 13; ((with_reducible refine (hc.out w4 (hR'.out.below b4)).mono ?_); rintro e w5 ⟨rfl, hO5, hB5⟩; have b5 := b4.trans (hB5.mono b4.size)))
    | (go_at_call 14; ((with_reducible refine (hI'.out w3 _ (Rd.own hO3)).mono ?_); rintro e w4 ⟨rfl, hB4⟩; have b4 := b3.trans (hB4.mono b3.size); have hO34 := hO3.below hB4 hO3.lt))
    | (go_at_call 13; ((with_reducible refine (hc.out w2 (hR'.out.below b2)).mono ?_); rintro e w3 ⟨rfl, hO3, hB3⟩; have b3 := b2.trans (hB3.mono b2.size)))
    | (go_at_call 12; ((with_reducible refine (hS'.out w1 _ (Rd.own hO1)).mono ?_); rintro e w2 ⟨rfl, hB2⟩; have b2 := hB1.trans (hB2.mono hB1.size)))
    | (go_at_call 13; ((with_reducible refine (hc.out w hR'.out).mono ?_); rintro e w1 ⟨rfl, hO1, hB1⟩)))
  go_ret
  exact ⟨rfl, b6⟩
theorem writhe_big (n : Int) (p : Option Addr) (cap : Nat) (len : Nat) (w : World) (hm : len ≤ maxLen) (h : 1048576 < len) : Calls Try.prog 4 #[.int .i64 n, .slice p len cap] w fun e w' => e = .returned (.bool true) ∧ Below w.heap.size w w' := by
  unfold maxLen at hm
  have h' : (1048576 : Int) < (len : Int) := by omega
  go_enter Try.func4, Try.ntmps4
  go_wp2
  go_ret
  exact ⟨rfl, Below.refl _ _⟩
theorem writhe_law (n : Int) (p : Option Addr) (cap : Nat) (xs : List Int) (w : World) (hm : xs.length ≤ maxLen) (hR : Rd w p xs) :
    Calls Try.prog 4 #[.int .i64 n, .slice p xs.length cap] w fun e w' => e = .returned (.bool true) ∧ Below w.heap.size w w' := by
  by_cases h : xs.length ≤ 1048576
  · cases hb : brdB n xs with
    | false => exact writhe_walk n p cap xs w h hR 0 2 (fun w q hR => writheS_bad n q _ xs w h hR hb) (fun w q hR => writheI_bad n q _ xs w h hR hb)
    | true => exact writhe_walk n p cap xs w h hR _ 0 (fun w q hR => writheS_ok n q _ xs w h hR hb) (fun w q hR => writheI_ok n q _ xs w h hR hb)
  · exact writhe_big n p cap xs.length w hm (by omega)
end Go.Proofs.Ytfhplhnaijhjlaa
