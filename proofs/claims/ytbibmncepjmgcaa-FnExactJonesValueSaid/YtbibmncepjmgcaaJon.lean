/- JonesValue: program, model and law. (Written by genjon.py.) -/
import Derived.Test.YtbibmncepjmgcaaJov
import Derived.Test.YtbibmncepjmgcaaBrx
namespace Go.Proofs.Ytbibmncepjmgcaa
open Go.RowKit Go.Lib
set_option linter.unusedVariables false
set_option linter.unusedSimpArgs false
set_option maxRecDepth 100000 in
set_option maxHeartbeats 4000000 in
theorem jonI_ok (p a n : Int) (q : Addr) (cap : Nat) (xs : List Int) (hx : xs.length ≤ 1048576) (h1 : baseB p a = true) (h2 : brdB n xs = true) (w : World) (hR : Rd w (some q) xs) :
    Calls Try.prog 24 #[.int .i64 p, .int .i64 a, .int .i64 n, .slice (some q) xs.length cap] w fun e w' => e = .returned (.tuple #[.int .i64 (jnV p (lvN p a) n a (rcp p a) xs), .int .i64 0]) ∧ Below w.heap.size w w' := by
  obtain ⟨hpr, hp, hp2, a1, a2⟩ := baseB_t h1
  obtain ⟨⟨n2, n6, hxl⟩, hxs⟩ := brdB_t h2
  have hrb := rcp_pos p a hpr a1 a2
  have hc0 : 0 ≤ lvN p a := Int.emod_nonneg _ (by omega)
  have hc1 : lvN p a < p := Int.emod_lt_of_pos _ (by omega)
  have hb1 := Lib.hid (fun w => baseI_any p a w)
  rw [h1] at hb1
  have hb2 := Lib.hid (fun w hR => isBraidI_any n (some q) cap xs w hx hR)
  rw [h2] at hb2
  have hsk := Lib.hid (fun w => skeinI_any p a n w h1)
  have hel := Lib.hid (fun w hR => jnI_any a (rcp p a) p (lvN p a) n hp hp2 hc0 hc1 n2 n6 (by omega) (by omega) (some q) cap xs hxl hxs w hR)
  have hRx := Lib.hid hR
  obtain ⟨c, hc⟩ : ∃ c, lvN p a = c := ⟨_, rfl⟩
  obtain ⟨b, hb⟩ : ∃ b, rcp p a = b := ⟨_, rfl⟩
  unfold skc at hsk
  unfold skv at hel
  rw [hc, hb] at hsk hel ⊢
  obtain ⟨V, hV⟩ : ∃ V, jnV p c n a b xs = V := ⟨_, rfl⟩
  rw [hV] at hel ⊢
  obtain ⟨m, hm⟩ : ∃ m, xs.length = m := ⟨_, rfl⟩
  rw [hm] at hel hb2 ⊢
  clear h1 h2 hpr hxl hxs hrb hc0 hc1 hR hc hb hV hm hx
  go_enter Try.func24, Try.ntmps24
  go_wp2_with (first
    | (go_at_call 44; ((with_reducible refine (hb1.out _).mono ?_); rintro e w1 ⟨rfl, rfl⟩))
    | (go_at_call 45; ((with_reducible refine (hb2.out _ hRx.out).mono ?_); rintro e w2 ⟨rfl, rfl⟩))
    | (go_at_call 46; ((with_reducible refine (hsk.out _).mono ?_); rintro e w3 ⟨rfl, hB3⟩))
    | (go_at_call 53; ((with_reducible refine (hel.out w3 (hRx.out.below hB3)).mono ?_); rintro e w4 ⟨rfl, hB4⟩; have b4 := hB3.trans (hB4.mono hB3.size))))
  go_ret2
  exact ⟨rfl, b4⟩
set_option maxRecDepth 100000 in
set_option maxHeartbeats 4000000 in
theorem jonI_bad (p a n : Int) (q : Addr) (cap : Nat) (xs : List Int) (hx : xs.length ≤ 1048576) (h : (baseB p a && brdB n xs) = false) (w : World) (hR : Rd w (some q) xs) :
    Calls Try.prog 24 #[.int .i64 p, .int .i64 a, .int .i64 n, .slice (some q) xs.length cap] w fun e w' => e = .returned (.tuple #[.int .i64 0, .int .i64 2]) ∧ Below w.heap.size w w' := by
  have hb1 := Lib.hid (fun w => baseI_any p a w)
  have hb2 := Lib.hid (fun w hR => isBraidI_any n (some q) cap xs w hx hR)
  have hRx := Lib.hid hR
  obtain ⟨m, hm⟩ : ∃ m, xs.length = m := ⟨_, rfl⟩
  rw [hm] at hb2 ⊢
  cases hb : baseB p a with
  | false =>
    rw [hb] at hb1
    clear hb h hR hx hm hb2
    go_enter Try.func24, Try.ntmps24
    go_wp2_with (first
      | (go_at_call 44; ((with_reducible refine (hb1.out _).mono ?_); rintro e w1 ⟨rfl, rfl⟩)))
    go_ret2
    exact ⟨rfl, Below.refl _ _⟩
  | true =>
    rw [hb] at hb1 h
    rw [Bool.true_and] at h
    rw [h] at hb2
    clear hb h hR hx hm
    go_enter Try.func24, Try.ntmps24
    go_wp2_with (first
      | (go_at_call 44; ((with_reducible refine (hb1.out _).mono ?_); rintro e w1 ⟨rfl, rfl⟩))
      | (go_at_call 45; ((with_reducible refine (hb2.out _ hRx.out).mono ?_); rintro e w2 ⟨rfl, rfl⟩)))
    go_ret2
    exact ⟨rfl, Below.refl _ _⟩
set_option maxRecDepth 100000 in
set_option maxHeartbeats 4000000 in
theorem jonS_ok (p a n : Int) (hpw : -9223372036854775808 ≤ p ∧ p ≤ 9223372036854775807) (q : Addr) (cap : Nat) (xs : List Int) (hx : xs.length ≤ 1048576) (h1 : baseB p a = true) (h2 : brdB n xs = true) (w : World) (hR : Rd w (some q) xs) :
    Calls Try.prog 23 #[.int .i64 p, .int .i64 a, .int .i64 n, .slice (some q) xs.length cap] w fun e w' => e = .returned (.tuple #[.int .i64 (jnV p (lvN p a) n a (rcp p a) xs), .int .i64 0]) ∧ Below w.heap.size w w' := by
  obtain ⟨⟨n2, n6, hxl⟩, hxs⟩ := brdB_t h2
  have hg := Lib.hid (fun w hR => givS_any p a n (some q) cap xs w hx hpw hR)
  rw [h1, h2] at hg
  have hel := Lib.hid (fun w hR => jnS_any p a n h1 n2 n6 (some q) cap xs hxl hxs w hR)
  have hRx := Lib.hid hR
  obtain ⟨V, hV⟩ : ∃ V, jnV p (lvN p a) n a (rcp p a) xs = V := ⟨_, rfl⟩
  rw [hV] at hel ⊢
  obtain ⟨m, hm⟩ : ∃ m, xs.length = m := ⟨_, rfl⟩
  rw [hm] at hel hg ⊢
  clear h1 h2 hxl hxs hR hV hm hx hpw
  go_enter Try.func23, Try.ntmps23
  go_wp2_with (first
    | (go_at_call 42; ((with_reducible refine (hg.out _ hRx.out).mono ?_); rintro e w2 ⟨rfl, rfl⟩))
    | (go_at_call 52; ((with_reducible refine (hel.out _ hRx.out).mono ?_); rintro e w4 ⟨rfl, hB4⟩)))
  go_ret2
  exact ⟨rfl, hB4⟩
set_option maxRecDepth 100000 in
set_option maxHeartbeats 4000000 in
theorem jonS_bad (p a n : Int) (hpw : -9223372036854775808 ≤ p ∧ p ≤ 9223372036854775807) (q : Addr) (cap : Nat) (xs : List Int) (hx : xs.length ≤ 1048576) (h : (baseB p a && brdB n xs) = false) (w : World) (hR : Rd w (some q) xs) :
    Calls Try.prog 23 #[.int .i64 p, .int .i64 a, .int .i64 n, .slice (some q) xs.length cap] w fun e w' => e = .returned (.tuple #[.int .i64 0, .int .i64 2]) ∧ Below w.heap.size w w' := by
  have hg := Lib.hid (fun w hR => givS_any p a n (some q) cap xs w hx hpw hR)
  rw [h] at hg
  have hRx := Lib.hid hR
  obtain ⟨m, hm⟩ : ∃ m, xs.length = m := ⟨_, rfl⟩
  rw [hm] at hg ⊢
  clear h hR hx hm hpw
  go_enter Try.func23, Try.ntmps23
  go_wp2_with (first
    | (go_at_call 42; ((with_reducible refine (hg.out _ hRx.out).mono ?_); rintro e w2 ⟨rfl, rfl⟩)))
  go_ret2
  exact ⟨rfl, Below.refl _ _⟩
set_option maxRecDepth 100000 in
set_option maxHeartbeats 4000000 in
theorem jon_walk (p0 : Int) (a : Int) (n : Int) (p : Option Addr) (cap : Nat) (xs : List Int) (w : World) (hx : xs.length ≤ 1048576) (hR : Rd w p xs) (x y : Int)
    (hS : ∀ w (q : Addr), Rd w (some q) xs → Calls Try.prog 23 #[.int .i64 p0, .int .i64 a, .int .i64 n, .slice (some q) xs.length xs.length] w fun e w' => e = .returned (.tuple #[.int .i64 x, .int .i64 y]) ∧ Below w.heap.size w w')
    (hI : ∀ w (q : Addr), Rd w (some q) xs → Calls Try.prog 24 #[.int .i64 p0, .int .i64 a, .int .i64 n, .slice (some q) xs.length xs.length] w fun e w' => e = .returned (.tuple #[.int .i64 x, .int .i64 y]) ∧ Below w.heap.size w w') :
    Calls Try.prog 6 #[.int .i64 p0, .int .i64 a, .int .i64 n, .slice p xs.length cap] w fun e w' => e = .returned (.bool true) ∧ Below w.heap.size w w' := by
  obtain ⟨l0, hm0⟩ : ∃ m, xs.length = m := ⟨_, rfl⟩
  have he0 := Lib.hid (fun p q cap cap' w hR hQ => eqI_same p q cap cap' xs (by omega) w hR hQ)
  have hc := Lib.hid (fun w hR => toI_any p cap xs hx w hR)
  have hS' := Lib.hid hS
  have hI' := Lib.hid hI
  have hR' := Lib.hid hR
  have hx' : ¬ (1048576 : Int) < (l0 : Int) := by omega
  rw [hm0] at he0 hc hS' hI' ⊢
  clear hS hI hm0 hR hx
  go_enter Try.func6, Try.ntmps6
  go_wp2_with (first
    | (go_at_call 17; ((with_reducible refine (he0.out _ _ _ _ w5 (Rd.own (hO34.below hB5 hO34.lt)) (Rd.own hO5)).mono ?_); rintro e w6 ⟨rfl, hB6⟩; have b6 := b5.trans (hB6.mono b5.size)))
    | (go_at_call 15; ((with_reducible refine (hc.out w4 (hR'.out.below b4)).mono ?_); rintro e w5 ⟨rfl, hO5, hB5⟩; have b5 := b4.trans (hB5.mono b4.size)))
    | (go_at_call 24; ((with_reducible refine (hI'.out w3 _ (Rd.own hO3)).mono ?_); rintro e w4 ⟨rfl, hB4⟩; have b4 := b3.trans (hB4.mono b3.size); have hO34 := hO3.below hB4 hO3.lt))
    | (go_at_call 15; ((with_reducible refine (hc.out w2 (hR'.out.below b2)).mono ?_); rintro e w3 ⟨rfl, hO3, hB3⟩; have b3 := b2.trans (hB3.mono b2.size)))
    | (go_at_call 23; ((with_reducible refine (hS'.out w1 _ (Rd.own hO1)).mono ?_); rintro e w2 ⟨rfl, hB2⟩; have b2 := hB1.trans (hB2.mono hB1.size)))
    | (go_at_call 15; ((with_reducible refine (hc.out w hR'.out).mono ?_); rintro e w1 ⟨rfl, hO1, hB1⟩)))
  go_ret
  exact ⟨rfl, b6⟩
theorem jon_big (p0 : Int) (a : Int) (n : Int) (p : Option Addr) (cap : Nat) (len : Nat) (w : World) (hm : len ≤ maxLen) (h : 1048576 < len) : Calls Try.prog 6 #[.int .i64 p0, .int .i64 a, .int .i64 n, .slice p len cap] w fun e w' => e = .returned (.bool true) ∧ Below w.heap.size w w' := by
  unfold maxLen at hm
  have h' : (1048576 : Int) < (len : Int) := by omega
  go_enter Try.func6, Try.ntmps6
  go_wp2
  go_ret
  exact ⟨rfl, Below.refl _ _⟩
theorem jon_law (p a n : Int) (q0 : Option Addr) (cap : Nat) (xs : List Int) (hpw : -9223372036854775808 ≤ p ∧ p ≤ 9223372036854775807) (w : World) (hm : xs.length ≤ maxLen) (hR : Rd w q0 xs) :
    Calls Try.prog 6 #[.int .i64 p, .int .i64 a, .int .i64 n, .slice q0 xs.length cap] w fun e w' => e = .returned (.bool true) ∧ Below w.heap.size w w' := by
  by_cases h : xs.length ≤ 1048576
  · cases hb : baseB p a && brdB n xs with
    | false => exact jon_walk p a n q0 cap xs w h hR _ _ (fun w q hR => jonS_bad p a n hpw q _ xs h hb w hR) (fun w q hR => jonI_bad p a n q _ xs h hb w hR)
    | true =>
      rw [Bool.and_eq_true] at hb
      exact jon_walk p a n q0 cap xs w h hR _ _ (fun w q hR => jonS_ok p a n hpw q _ xs h hb.1 hb.2 w hR) (fun w q hR => jonI_ok p a n q _ xs h hb.1 hb.2 w hR)
  · exact jon_big p a n q0 cap xs.length w hm (by omega)
end Go.Proofs.Ytbibmncepjmgcaa
