/- The law of DiagramOfPermutation. -/
import Derived.Test.YtbikpagoeeelbaaDopS
import Derived.Test.YtbikpagoeeelbaaMulC
namespace Go.Proofs.Ytbikpagoeeelbaa
open Go.RowKit
set_option linter.unusedVariables false
set_option maxRecDepth 100000 in
set_option maxHeartbeats 1000000 in
theorem DiagramOfPermutation_walk (p : Option Addr) (cap : Nat) (xs : List Int) (w : World) (hx : xs.length ≤ 1048576) (hR : Rd w p xs) (m c : Int) (rs : List Int) (hl : rs.length = 16)
    (hS : ∀ w p, Rd w p xs → Calls Try.prog 30 #[.slice p xs.length xs.length] w fun e w' => e = .returned (.tuple #[.agg (dcells m rs), .int .i64 c]) ∧ Below w.heap.size w w')
    (hI : ∀ w p, Rd w p xs → Calls Try.prog 31 #[.slice p xs.length xs.length] w fun e w' => e = .returned (.tuple #[.agg (dcells m rs), .int .i64 c]) ∧ Below w.heap.size w w') :
    Calls Try.prog 10 #[.slice p xs.length cap] w fun e w' => e = .returned (.bool true) ∧ Below w.heap.size w w' := by
  have hh := Lib.hid hl
  have hS' := Lib.hid hS
  have hI' := Lib.hid hI
  have hR' := Lib.hid hR
  have hc := Lib.hid (fun w hR => toI_any p cap xs hx w hR)
  have he := Lib.hid (fun p q cap cap' w hR hQ => eqI_same p q cap cap' xs (by omega) w hR hQ)
  have hx' : ¬ (1048576 : Int) < (xs.length : Int) := by omega
  clear hl hS hI hR
  go_enter Try.func10, Try.ntmps10
  go_wp2_with (first
    | (go_at_call 22; ((with_reducible refine (hc.out w6 (hR'.out.below b6)).mono ?_); rintro e w7 ⟨rfl, hO7, hB7⟩))
    | (go_at_call 22; ((with_reducible refine (hc.out w3 (hR'.out.below b3)).mono ?_); rintro e w4 ⟨rfl, hO4, hB4⟩; have b4 := b3.trans (hB4.mono b3.size)))
    | (go_at_call 22; ((with_reducible refine (hc.out w hR'.out).mono ?_); rintro e w1 ⟨rfl, hO1, hB1⟩))
    | ((go_at_call 30; ((with_reducible refine (hS'.out _ _ (Rd.own hO1)).mono ?_); rintro e w2 ⟨rfl, hB2⟩)); have b2 := hB1.trans (hB2.mono hB1.size))
    | ((refine wpList_store_own rfl 43 _ _ rfl _ _ rfl rfl 43 _ (Own.new w2 _ _) (row26 (d17 _ _ (hh.out))) (z_eq (d17 _ _ hh.out)) (dcells_one _ _) ?_; intro w3 hO3 hN3); have b3 := (b2.alloc b2.size _).trans (hN3.below.mono b2.size))
    | ((go_at_call 31; ((with_reducible refine (hI'.out _ _ (Rd.own hO4)).mono ?_); rintro e w5 ⟨rfl, hB5⟩)); have b5 := b4.trans (hB5.mono b4.size); have hO35 := (hO3.below hB4 hO3.lt).below hB5 (Nat.lt_of_lt_of_le hO3.lt hB4.size); have hO45 := hO4.below hB5 hO4.lt)
    | ((refine wpList_store_own rfl 43 _ _ rfl _ _ rfl rfl 43 _ (Own.new w5 _ _) (row26 (d17 _ _ (hh.out))) (z_eq (d17 _ _ hh.out)) (dcells_one _ _) ?_; intro w6a hO6 hN6); have b6a := (b5.alloc b5.size _).trans (hN6.below.mono b5.size); have hO36 := (hO35.alloc _).only hN6 (Nat.ne_of_lt hO35.lt); have hO46 := (hO45.alloc _).only hN6 (Nat.ne_of_lt hO45.lt))
    | (refine wpList_load_row rfl 43 _ rfl _ rfl 43 _ (0, 0) _ (hO6) Try.underlying43 rfl (row26 (d17 _ _ (hh.out))) ?_)
    | (refine wpList_load_row rfl 43 _ rfl _ rfl 43 _ (0, 0) _ (hO36) Try.underlying43 rfl (row26 (d17 _ _ (hh.out))) ?_)
    | (go_at_call 32; refine (eqD_same m rs hh.out w6a).mono ?_; rintro e w6 ⟨rfl, hB6⟩; have b6 := b6a.trans (hB6.mono b6a.size); have hO47 := hO46.below hB6 hO46.lt)
    | (go_at_call 18; ((with_reducible refine (he.out _ _ _ _ w7 (Rd.own (hO47.below hB7 hO47.lt)) (Rd.own hO7)).mono ?_); rintro e w8 ⟨rfl, hB8⟩)))
  go_ret
  have b7 := b6.trans (hB7.mono b6.size)
  exact ⟨rfl, b7.trans (hB8.mono b7.size)⟩
theorem dop_big (p : Option Addr) (cap : Nat) (len : Nat) (w : World) (hm : len ≤ maxLen) (h : 1048576 < len) : Calls Try.prog 10 #[.slice p len cap] w fun e w' => e = .returned (.bool true) ∧ Below w.heap.size w w' := by
  unfold maxLen at hm
  have h' : (1048576 : Int) < (len : Int) := by omega
  go_enter Try.func10, Try.ntmps10
  go_wp2
  go_ret
  exact ⟨rfl, Below.refl _ _⟩
theorem dop_law (p : Option Addr) (cap : Nat) (xs : List Int) (w : World) (hm : xs.length ≤ maxLen) (hR : Rd w p xs) :
    Calls Try.prog 10 #[.slice p xs.length cap] w fun e w' => e = .returned (.bool true) ∧ Below w.heap.size w w' := by
  by_cases h : xs.length ≤ 1048576
  · cases hb : permB xs with
    | false => exact DiagramOfPermutation_walk p cap xs w h hR 0 2 zeros zlen (fun w p hR => dopS_bad p _ xs h w hR hb) (fun w p hR => dopI_bad p _ xs h w hR hb)
    | true =>
      by_cases q : ShortP xs
      · obtain ⟨hP, h1⟩ := permB_prm hb
        have h8 := hP.1
        obtain ⟨W, a, b, c⟩ := word_of hP
        exact DiagramOfPermutation_walk p cap xs w h hR xs.length 0 _ (valW_ok xs.length (wordOf W) (by omega) (by omega) c).1 (fun w p hR => dopS_ok p _ xs w hR hb q W a b c) (fun w p hR => dopI_ok p _ xs (Nat.le_refl _) w hR hb q W a b c)
      · exact DiagramOfPermutation_walk p cap xs w h hR 0 5 zeros zlen (fun w p hR => dopS_long p _ xs w hR hb q) (fun w p hR => dopI_long p _ xs (Nat.le_refl _) w hR hb q)
  · exact dop_big p cap xs.length w hm (by omega)
end Go.Proofs.Ytbikpagoeeelbaa
