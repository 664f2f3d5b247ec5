/- Contracts of IsShort, and its law. -/
import Derived.Test.YtbikpagoeeelbaaShortS
namespace Go.Proofs.Ytbikpagoeeelbaa
open Go.RowKit
set_option linter.unusedVariables false
theorem permB_len {xs : List Int} (h : permB xs = true) : xs.length ≤ 8 := by
  unfold permB at h
  rw [Bool.and_eq_true] at h
  have := h.1
  simp at this; omega
set_option maxRecDepth 100000 in
theorem isShI_bad (p : Option Addr) (cap : Nat) (xs : List Int) (hx : xs.length ≤ 1048576) (w : World) (hR : Rd w p xs) (h : permB xs = false) :
    Calls Try.prog 34 #[.slice p xs.length cap] w fun e w' => e = .returned (.tuple #[.bool false, .int .i64 2]) ∧ Below w.heap.size w w' := by
  have hc := permI_any p cap xs hx w hR
  rw [h] at hc
  have hc' := Lib.hid hc
  clear hR h hc
  go_enter Try.func34, Try.ntmps34
  go_wp2_with (first
    | (go_at_call 58; ((with_reducible refine (hc'.out).mono ?_); rintro e w1 ⟨rfl, hB1⟩)))
  go_ret2
  exact ⟨rfl, hB1⟩
set_option maxRecDepth 100000 in
theorem isShI_ok (p : Option Addr) (cap : Nat) (xs : List Int) (hcap : xs.length ≤ cap) (w : World) (hR : Rd w p xs) (h : permB xs = true) (b : Bool) (hb : b = true ↔ ShortP xs) :
    Calls Try.prog 34 #[.slice p xs.length cap] w fun e w' => e = .returned (.tuple #[.bool b, .int .i64 0]) ∧ Below w.heap.size w w' := by
  have h8 := permB_len h
  have hc := permI_any p cap xs (by omega) w hR
  rw [h] at hc
  have hc' := Lib.hid hc
  have hq := Lib.hid (fun w1 (hB : Below w.heap.size w w1) => (shortI_any p cap xs h8 hcap w1 (hR.below hB)).mono fun e w' h => (show e = .returned (.bool b) ∧ Below w1.heap.size w1 w' from by
    obtain ⟨⟨b', h1, h2⟩, h3⟩ := h
    have : b' = b := by rw [Bool.eq_iff_iff, h2, hb]
    exact ⟨by rw [h1, this], h3⟩))
  clear hR h hc hb h8 hcap
  go_enter Try.func34, Try.ntmps34
  go_wp2_with (first
    | (go_at_call 58; ((with_reducible refine (hc'.out).mono ?_); rintro e w1 ⟨rfl, hB1⟩))
    | (go_at_call 59; ((with_reducible refine (hq.out w1 hB1).mono ?_); rintro e w2 ⟨rfl, hB2⟩)))
  go_ret2
  exact ⟨rfl, hB1.trans (hB2.mono hB1.size)⟩
set_option maxRecDepth 100000 in
theorem isShS_bad (p : Option Addr) (cap : Nat) (xs : List Int) (hx : xs.length ≤ 1048576) (w : World) (hR : Rd w p xs) (h : permB xs = false) :
    Calls Try.prog 33 #[.slice p xs.length cap] w fun e w' => e = .returned (.tuple #[.bool false, .int .i64 2]) ∧ Below w.heap.size w w' := by
  have hc := permS_any p cap xs hx w hR
  rw [h] at hc
  have hc' := Lib.hid hc
  clear hR h hc
  go_enter Try.func33, Try.ntmps33
  go_wp2_with (first
    | (go_at_call 54; ((with_reducible refine (hc'.out).mono ?_); rintro e w1 ⟨rfl, hB1⟩)))
  go_ret2
  exact ⟨rfl, hB1⟩
set_option maxRecDepth 100000 in
theorem isShS_ok (p : Option Addr) (cap : Nat) (xs : List Int) (hcap : xs.length ≤ cap) (w : World) (hR : Rd w p xs) (h : permB xs = true) (b : Bool) (hb : b = true ↔ ShortP xs) :
    Calls Try.prog 33 #[.slice p xs.length cap] w fun e w' => e = .returned (.tuple #[.bool b, .int .i64 0]) ∧ Below w.heap.size w w' := by
  have h8 := permB_len h
  have hc := permS_any p cap xs (by omega) w hR
  rw [h] at hc
  have hc' := Lib.hid hc
  have hq := Lib.hid (fun w1 (hB : Below w.heap.size w w1) => (shortS_any p cap xs h8 w1 (hR.below hB)).mono fun e w' h => (show e = .returned (.bool b) ∧ Below w1.heap.size w1 w' from by
    obtain ⟨⟨b', h1, h2⟩, h3⟩ := h
    have : b' = b := by rw [Bool.eq_iff_iff, h2, hb]
    exact ⟨by rw [h1, this], h3⟩))
  clear hR h hc hb h8 hcap
  go_enter Try.func33, Try.ntmps33
  go_wp2_with (first
    | (go_at_call 54; ((with_reducible refine (hc'.out).mono ?_); rintro e w1 ⟨rfl, hB1⟩))
    | (go_at_call 55; ((with_reducible refine (hq.out w1 hB1).mono ?_); rintro e w2 ⟨rfl, hB2⟩)))
  go_ret2
  exact ⟨rfl, hB1.trans (hB2.mono hB1.size)⟩
set_option maxRecDepth 100000 in
set_option maxHeartbeats 1000000 in
theorem IsShort_walk (p : Option Addr) (cap : Nat) (xs : List Int) (w : World) (hx : xs.length ≤ 1048576) (hR : Rd w p xs) (b : Bool) (c : Int)
    (hS : ∀ w p, Rd w p xs → Calls Try.prog 33 #[.slice p xs.length xs.length] w fun e w' => e = .returned (.tuple #[.bool b, .int .i64 c]) ∧ Below w.heap.size w w')
    (hI : ∀ w p, Rd w p xs → Calls Try.prog 34 #[.slice p xs.length xs.length] w fun e w' => e = .returned (.tuple #[.bool b, .int .i64 c]) ∧ Below w.heap.size w w') :
    Calls Try.prog 11 #[.slice p xs.length cap] w fun e w' => e = .returned (.bool true) ∧ Below w.heap.size w w' := by
  have hS' := Lib.hid hS
  have hI' := Lib.hid hI
  have hR' := Lib.hid hR
  have hc := Lib.hid (fun w hR => toI_any p cap xs hx w hR)
  have he := Lib.hid (fun p q cap cap' w hR hQ => eqI_same p q cap cap' xs (by omega) w hR hQ)
  have hx' : ¬ (1048576 : Int) < (xs.length : Int) := by omega
  clear hS hI hR
  go_enter Try.func11, Try.ntmps11
  go_wp2_with (first
    | (go_at_call 22; ((with_reducible refine (hc.out w5 (hR'.out.below b5)).mono ?_); rintro e w7 ⟨rfl, hO7, hB7⟩))
    | (go_at_call 22; ((with_reducible refine (hc.out w2 (hR'.out.below b2)).mono ?_); rintro e w4 ⟨rfl, hO4, hB4⟩; have b4 := b2.trans (hB4.mono b2.size)))
    | (go_at_call 22; ((with_reducible refine (hc.out w hR'.out).mono ?_); rintro e w1 ⟨rfl, hO1, hB1⟩))
    | ((go_at_call 33; ((with_reducible refine (hS'.out _ _ (Rd.own hO1)).mono ?_); rintro e w2 ⟨rfl, hB2⟩)); have b2 := hB1.trans (hB2.mono hB1.size))
    | ((go_at_call 34; ((with_reducible refine (hI'.out _ _ (Rd.own hO4)).mono ?_); rintro e w5 ⟨rfl, hB5⟩)); have b5 := b4.trans (hB5.mono b4.size); have hO45 := hO4.below hB5 hO4.lt)
    | (go_at_call 18; ((with_reducible refine (he.out _ _ _ _ w7 (Rd.own (hO45.below hB7 hO45.lt)) (Rd.own hO7)).mono ?_); rintro e w8 ⟨rfl, hB8⟩)))
  go_ret
  have b7 := b5.trans (hB7.mono b5.size)
  exact ⟨rfl, b7.trans (hB8.mono b7.size)⟩
theorem isSh_big (p : Option Addr) (cap : Nat) (len : Nat) (w : World) (hm : len ≤ maxLen) (h : 1048576 < len) : Calls Try.prog 11 #[.slice p len cap] w fun e w' => e = .returned (.bool true) ∧ Below w.heap.size w w' := by
  unfold maxLen at hm
  have h' : (1048576 : Int) < (len : Int) := by omega
  go_enter Try.func11, Try.ntmps11
  go_wp2
  go_ret
  exact ⟨rfl, Below.refl _ _⟩
theorem isSh_law (p : Option Addr) (cap : Nat) (xs : List Int) (w : World) (hm : xs.length ≤ maxLen) (hR : Rd w p xs) :
    Calls Try.prog 11 #[.slice p xs.length cap] w fun e w' => e = .returned (.bool true) ∧ Below w.heap.size w w' := by
  by_cases h : xs.length ≤ 1048576
  · cases hb : permB xs with
    | false => exact IsShort_walk p cap xs w h hR false 2 (fun w p hR => isShS_bad p _ xs h w hR hb) (fun w p hR => isShI_bad p _ xs h w hR hb)
    | true =>
      obtain ⟨b, hbb⟩ : ∃ b : Bool, b = true ↔ ShortP xs := by
        by_cases q : ShortP xs
        · exact ⟨true, by simp [q]⟩
        · exact ⟨false, by simp [q]⟩
      exact IsShort_walk p cap xs w h hR b 0 (fun w p hR => isShS_ok p _ xs (Nat.le_refl _) w hR hb b hbb) (fun w p hR => isShI_ok p _ xs (Nat.le_refl _) w hR hb b hbb)
  · exact isSh_big p cap xs.length w hm (by omega)
end Go.Proofs.Ytbikpagoeeelbaa
