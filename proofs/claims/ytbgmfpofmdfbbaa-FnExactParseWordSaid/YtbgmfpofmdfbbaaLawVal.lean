/- Contracts of ValueOfWord, and its law. -/
import Derived.Test.YtbgmfpofmdfbbaaWordS
import Derived.Test.YtbgmfpofmdfbbaaMulC
namespace Go.Proofs.Ytbgmfpofmdfbbaa
open Go.RowKit
set_option linter.unusedVariables false
set_option maxRecDepth 100000 in
theorem valI_bad (n : Int) (p : Option Addr) (cap : Nat) (xs : List Int) (w : World) (hx : xs.length ≤ 1048576) (hR : Rd w p xs) (h : wordB n xs = false) :
    Calls Try.prog 28 #[.int .i64 n, .slice p xs.length cap] w fun e w' => e = .returned (.tuple #[.agg zcells, .int .i64 0, .int .i64 2]) ∧ Below w.heap.size w w' := by
  have hR' := Lib.hid hR
  have hc := Lib.hid (fun w hR => isWordI_any n p cap xs w hx hR)
  rw [h] at hc
  clear hR h
  go_enter Try.func28, Try.ntmps28
  go_wp2_with (first
    | (go_at_call 59; ((with_reducible refine (hc.out _ (hR'.out.below ((Below.refl _ _).alloc (Nat.le_refl _) _))).mono ?_); rintro e w1 ⟨rfl, rfl⟩))
    | (refine wpList_build_of rfl 25 #[] rfl zcells ?_ ?_; (exact built26nil))
    | (refine wpList_store_own rfl 25 _ _ rfl _ _ rfl rfl 25 _ (Own.new w _ _) (row26 (d17 _ _ (zlen))) (rfl) (dcells_one _ _) ?_; intro w4 hO4 hN4))
  refine bodyPost_ret (v := .tuple #[.agg (zcells), .int .i64 0, .int .i64 2]) (results_row_tmp2 (v := .int .i64 0) (v2 := .int .i64 2) rfl _ _ _ _ _ (0, 0) _ rfl (hO4) Try.underlying25 rfl (row26 (d17 _ _ (zlen))) rfl rfl) rfl (⟨rfl, ((Below.refl _ _).alloc (Nat.le_refl _) _).trans (hN4.below.mono (Nat.le_refl _))⟩)
set_option maxRecDepth 100000 in
theorem valS_bad (n : Int) (p : Option Addr) (cap : Nat) (xs : List Int) (w : World) (hx : xs.length ≤ 1048576) (hR : Rd w p xs) (h : wordB n xs = false) :
    Calls Try.prog 26 #[.int .i64 n, .slice p xs.length cap] w fun e w' => e = .returned (.tuple #[.agg zcells, .int .i64 0, .int .i64 2]) ∧ Below w.heap.size w w' := by
  have hR' := Lib.hid hR
  have hc := Lib.hid (fun w hR => isWordS_any n p cap xs w hx hR)
  rw [h] at hc
  clear hR h
  go_enter Try.func26, Try.ntmps26
  go_wp2_with (first
    | (go_at_call 57; ((with_reducible refine (hc.out _ (hR'.out.below ((Below.refl _ _).alloc (Nat.le_refl _) _))).mono ?_); rintro e w1 ⟨rfl, rfl⟩))
    | (refine wpList_build_of rfl 25 #[] rfl zcells ?_ ?_; (exact built26nil))
    | (refine wpList_store_own rfl 25 _ _ rfl _ _ rfl rfl 25 _ (Own.new w _ _) (row26 (d17 _ _ (zlen))) (rfl) (dcells_one _ _) ?_; intro w4 hO4 hN4))
  refine bodyPost_ret (v := .tuple #[.agg (zcells), .int .i64 0, .int .i64 2]) (results_row_tmp2 (v := .int .i64 0) (v2 := .int .i64 2) rfl _ _ _ _ _ (0, 0) _ rfl (hO4) Try.underlying25 rfl (row26 (d17 _ _ (zlen))) rfl rfl) rfl (⟨rfl, ((Below.refl _ _).alloc (Nat.le_refl _) _).trans (hN4.below.mono (Nat.le_refl _))⟩)
theorem wordB_t {n : Int} {xs : List Int} (h : wordB n xs = true) : (2 ≤ n ∧ n ≤ 8 ∧ xs.length ≤ 60) ∧ ∀ x ∈ xs, 0 ≤ x ∧ x ≤ n - 2 := by
  unfold wordB at h
  rw [Bool.and_eq_true] at h
  exact ⟨by simpa using h.1, all_okW h.2⟩
set_option maxRecDepth 100000 in
theorem valI_ok (n : Int) (p : Option Addr) (cap : Nat) (xs : List Int) (w : World) (hR : Rd w p xs) (h : wordB n xs = true) :
    Calls Try.prog 28 #[.int .i64 n, .slice p xs.length cap] w fun e w' => e = .returned (.tuple #[.agg (dcells n (valW n xs).1), .int .i64 (valW n xs).2, .int .i64 0]) ∧ Below w.heap.size w w' := by
  have hR' := Lib.hid hR
  have hB := Lib.hid (wordB_t h)
  have hc := Lib.hid (fun w hR => isWordI_any n p cap xs w (by have := hB.out; omega) hR)
  have hv := Lib.hid (fun w hR => valueI_any n p cap xs w (by have := hB.out; omega) (by have := hB.out; omega) (by have := hB.out; omega) hB.out.2 hR)
  have hl := Lib.hid (valW_ok n xs (by have := hB.out; omega) (by have := hB.out; omega) hB.out.2).1
  rw [h] at hc
  generalize (valW n xs).1 = ms at hv hl ⊢
  generalize (valW n xs).2 = t at hv ⊢
  clear hR h
  go_enter Try.func28, Try.ntmps28
  go_wp2_with (first
    | (go_at_call 59; ((with_reducible refine (hc.out _ (hR'.out.below ((Below.refl _ _).alloc (Nat.le_refl _) _))).mono ?_); rintro e w1 ⟨rfl, rfl⟩))
    | (go_at_call 60; ((with_reducible refine (hv.out _ (hR'.out.below ((Below.refl _ _).alloc (Nat.le_refl _) _))).mono ?_); rintro e w2 ⟨rfl, hB2⟩))
    | (refine wpList_store_own rfl 25 _ _ rfl _ _ rfl rfl 25 _ (Own.new w2 _ _) (row26 (d17 _ _ (hl.out))) (z_eq (d17 _ _ hl.out)) (dcells_one _ _) ?_; intro w3 hO3 hN3)
    | (refine wpList_load_row rfl 25 _ rfl _ rfl 25 _ (0, 0) _ (hO3) Try.underlying25 rfl (row26 (d17 _ _ (hl.out))) ?_)
    | (refine wpList_store_own rfl 25 _ _ rfl _ _ rfl rfl 25 _ ((((Own.new w _ _).below hB2 (by simp)).alloc _).only hN3 (Nat.ne_of_lt (Nat.lt_of_lt_of_le (by simp) hB2.size))) (row26 (d17 _ _ (hl.out))) (z_eq (d17 _ _ hl.out)) (dcells_one _ _) ?_; intro w4 hO4 hN4))
  refine bodyPost_ret (v := .tuple #[.agg (dcells n ms), .int .i64 t, .int .i64 0]) (results_row_tmp2 (v := .int .i64 t) (v2 := .int .i64 0) rfl _ _ _ _ _ (0, 0) _ rfl (hO4) Try.underlying25 rfl (row26 (d17 _ _ (hl.out))) rfl rfl) rfl (⟨rfl, ?_⟩)
  have b0 : Below w.heap.size w (w.alloc (.cells zcells 25)) := (Below.refl _ _).alloc (Nat.le_refl _) _
  have b2 := b0.trans (hB2.mono b0.size)
  have b3 := (b2.alloc b2.size _).trans (hN3.below.mono b2.size)
  exact b3.trans (hN4.below.mono (Nat.le_refl _))
set_option maxRecDepth 100000 in
theorem valS_ok (n : Int) (p : Option Addr) (cap : Nat) (xs : List Int) (w : World) (hR : Rd w p xs) (h : wordB n xs = true) :
    Calls Try.prog 26 #[.int .i64 n, .slice p xs.length cap] w fun e w' => e = .returned (.tuple #[.agg (dcells n (valW n xs).1), .int .i64 (valW n xs).2, .int .i64 0]) ∧ Below w.heap.size w w' := by
  have hR' := Lib.hid hR
  have hB := Lib.hid (wordB_t h)
  have hc := Lib.hid (fun w hR => isWordS_any n p cap xs w (by have := hB.out; omega) hR)
  have hv := Lib.hid (fun w hR => valueS_any n p cap xs w (by have := hB.out; omega) (by have := hB.out; omega) (by have := hB.out; omega) hB.out.2 hR)
  have hl := Lib.hid (valW_ok n xs (by have := hB.out; omega) (by have := hB.out; omega) hB.out.2).1
  rw [h] at hc
  generalize (valW n xs).1 = ms at hv hl ⊢
  generalize (valW n xs).2 = t at hv ⊢
  clear hR h
  go_enter Try.func26, Try.ntmps26
  go_wp2_with (first
    | (go_at_call 57; ((with_reducible refine (hc.out _ (hR'.out.below ((Below.refl _ _).alloc (Nat.le_refl _) _))).mono ?_); rintro e w1 ⟨rfl, rfl⟩))
    | (go_at_call 58; ((with_reducible refine (hv.out _ (hR'.out.below ((Below.refl _ _).alloc (Nat.le_refl _) _))).mono ?_); rintro e w2 ⟨rfl, hB2⟩))
    | (refine wpList_store_own rfl 25 _ _ rfl _ _ rfl rfl 25 _ (Own.new w2 _ _) (row26 (d17 _ _ (hl.out))) (z_eq (d17 _ _ hl.out)) (dcells_one _ _) ?_; intro w3 hO3 hN3)
    | (refine wpList_load_row rfl 25 _ rfl _ rfl 25 _ (0, 0) _ (hO3) Try.underlying25 rfl (row26 (d17 _ _ (hl.out))) ?_)
    | (refine wpList_store_own rfl 25 _ _ rfl _ _ rfl rfl 25 _ ((((Own.new w _ _).below hB2 (by simp)).alloc _).only hN3 (Nat.ne_of_lt (Nat.lt_of_lt_of_le (by simp) hB2.size))) (row26 (d17 _ _ (hl.out))) (z_eq (d17 _ _ hl.out)) (dcells_one _ _) ?_; intro w4 hO4 hN4))
  refine bodyPost_ret (v := .tuple #[.agg (dcells n ms), .int .i64 t, .int .i64 0]) (results_row_tmp2 (v := .int .i64 t) (v2 := .int .i64 0) rfl _ _ _ _ _ (0, 0) _ rfl (hO4) Try.underlying25 rfl (row26 (d17 _ _ (hl.out))) rfl rfl) rfl (⟨rfl, ?_⟩)
  have b0 : Below w.heap.size w (w.alloc (.cells zcells 25)) := (Below.refl _ _).alloc (Nat.le_refl _) _
  have b2 := b0.trans (hB2.mono b0.size)
  have b3 := (b2.alloc b2.size _).trans (hN3.below.mono b2.size)
  exact b3.trans (hN4.below.mono (Nat.le_refl _))
set_option maxRecDepth 100000 in
set_option maxHeartbeats 1000000 in
theorem ValueOfWord_walk (n : Int) (p : Option Addr) (cap : Nat) (xs : List Int) (w : World) (hx : xs.length ≤ 1048576) (hR : Rd w p xs) (m t c : Int) (rs : List Int) (hl : rs.length = 16)
    (hS : ∀ w p cap, Rd w p xs → Calls Try.prog 26 #[.int .i64 n, .slice p xs.length cap] w fun e w' => e = .returned (.tuple #[.agg (dcells m rs), .int .i64 t, .int .i64 c]) ∧ Below w.heap.size w w')
    (hI : ∀ w p cap, Rd w p xs → Calls Try.prog 28 #[.int .i64 n, .slice p xs.length cap] w fun e w' => e = .returned (.tuple #[.agg (dcells m rs), .int .i64 t, .int .i64 c]) ∧ Below w.heap.size w w') :
    Calls Try.prog 7 #[.int .i64 n, .slice p xs.length cap] w fun e w' => e = .returned (.bool true) ∧ Below w.heap.size w w' := by
  have hh := Lib.hid hl
  have hS' := Lib.hid hS
  have hI' := Lib.hid hI
  have hR' := Lib.hid hR
  have hc := Lib.hid (fun w hR => toI_any p cap xs hx w hR)
  have he := Lib.hid (fun p q cap cap' w hR hQ => eqI_same p q cap cap' xs (by omega) w hR hQ)
  have hx' : ¬ (1048576 : Int) < (xs.length : Int) := by omega
  clear hl hS hI hR
  go_enter Try.func7, Try.ntmps7
  go_wp2_with (first
    | (go_at_call 27; ((with_reducible refine (hc.out w6 (hR'.out.below b6)).mono ?_); rintro e w7 ⟨rfl, hO7, hB7⟩))
    | (go_at_call 27; ((with_reducible refine (hc.out w3 (hR'.out.below b3)).mono ?_); rintro e w4 ⟨rfl, hO4, hB4⟩; have b4 := b3.trans (hB4.mono b3.size)))
    | (go_at_call 27; ((with_reducible refine (hc.out w hR'.out).mono ?_); rintro e w1 ⟨rfl, hO1, hB1⟩))
    | ((go_at_call 26; ((with_reducible refine (hS'.out _ _ _ (Rd.own hO1)).mono ?_); rintro e w2 ⟨rfl, hB2⟩)); have b2 := hB1.trans (hB2.mono hB1.size))
    | ((refine wpList_store_own rfl 25 _ _ rfl _ _ rfl rfl 25 _ (Own.new w2 _ _) (row26 (d17 _ _ (hh.out))) (z_eq (d17 _ _ hh.out)) (dcells_one _ _) ?_; intro w3 hO3 hN3); have b3 := (b2.alloc b2.size _).trans (hN3.below.mono b2.size))
    | ((go_at_call 28; ((with_reducible refine (hI'.out _ _ _ (Rd.own hO4)).mono ?_); rintro e w5 ⟨rfl, hB5⟩)); have b5 := b4.trans (hB5.mono b4.size); have hO35 := (hO3.below hB4 hO3.lt).below hB5 (Nat.lt_of_lt_of_le hO3.lt hB4.size); have hO45 := hO4.below hB5 hO4.lt)
    | ((refine wpList_store_own rfl 25 _ _ rfl _ _ rfl rfl 25 _ (Own.new w5 _ _) (row26 (d17 _ _ (hh.out))) (z_eq (d17 _ _ hh.out)) (dcells_one _ _) ?_; intro w6a hO6 hN6); have b6a := (b5.alloc b5.size _).trans (hN6.below.mono b5.size); have hO36 := (hO35.alloc _).only hN6 (Nat.ne_of_lt hO35.lt); have hO46 := (hO45.alloc _).only hN6 (Nat.ne_of_lt hO45.lt))
    | (refine wpList_load_row rfl 25 _ rfl _ rfl 25 _ (0, 0) _ (hO6) Try.underlying25 rfl (row26 (d17 _ _ (hh.out))) ?_)
    | (refine wpList_load_row rfl 25 _ rfl _ rfl 25 _ (0, 0) _ (hO36) Try.underlying25 rfl (row26 (d17 _ _ (hh.out))) ?_)
    | (go_at_call 16; refine (eqD_same m rs hh.out w6a).mono ?_; rintro e w6 ⟨rfl, hB6⟩; have b6 := b6a.trans (hB6.mono b6a.size); have hO47 := hO46.below hB6 hO46.lt)
    | (go_at_call 29; ((with_reducible refine (he.out _ _ _ _ w7 (Rd.own (hO47.below hB7 hO47.lt)) (Rd.own hO7)).mono ?_); rintro e w8 ⟨rfl, hB8⟩)))
  go_ret
  have b7 := b6.trans (hB7.mono b6.size)
  exact ⟨rfl, b7.trans (hB8.mono b7.size)⟩
theorem val_big (n : Int) (p : Option Addr) (cap : Nat) (len : Nat) (w : World) (hm : len ≤ maxLen) (h : 1048576 < len) : Calls Try.prog 7 #[.int .i64 n, .slice p len cap] w fun e w' => e = .returned (.bool true) ∧ Below w.heap.size w w' := by
  unfold maxLen at hm
  have h' : (1048576 : Int) < (len : Int) := by omega
  go_enter Try.func7, Try.ntmps7
  go_wp2
  go_ret
  exact ⟨rfl, Below.refl _ _⟩
theorem val_law (n : Int) (p : Option Addr) (cap : Nat) (xs : List Int) (w : World) (hm : xs.length ≤ maxLen) (hR : Rd w p xs) :
    Calls Try.prog 7 #[.int .i64 n, .slice p xs.length cap] w fun e w' => e = .returned (.bool true) ∧ Below w.heap.size w w' := by
  by_cases h : xs.length ≤ 1048576
  · cases hb : wordB n xs with
    | false => exact ValueOfWord_walk n p cap xs w h hR 0 0 2 zeros zlen (fun w p cap hR => valS_bad n p cap xs w h hR hb) (fun w p cap hR => valI_bad n p cap xs w h hR hb)
    | true =>
      have B := wordB_t hb
      exact ValueOfWord_walk n p cap xs w h hR n _ 0 _ (valW_ok n xs (by omega) (by omega) B.2).1 (fun w p cap hR => valS_ok n p cap xs w hR hb) (fun w p cap hR => valI_ok n p cap xs w hR hb)
  · exact val_big n p cap xs.length w hm (by omega)
end Go.Proofs.Ytbgmfpofmdfbbaa
