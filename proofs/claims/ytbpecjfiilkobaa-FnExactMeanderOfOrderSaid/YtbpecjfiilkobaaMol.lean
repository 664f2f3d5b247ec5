/- MeanderOfOrder: the model where it refuses at once, and the law. -/
import Derived.Test.YtbpecjfiilkobaaMos
namespace Go.Proofs.Ytbpecjfiilkobaa
open Go.RowKit
set_option linter.unusedVariables false
set_option linter.unusedSimpArgs false
set_option maxRecDepth 1000000 in
theorem mos_bad (p : Option Addr) (cap : Nat) (xs : List Int) (n : Nat) (hn : xs.length = n) (hx : n ≤ 1048576) (w : World) (hR : Rd w p xs) (h : ¬ (n % 2 = 0 ∧ 2 ≤ n ∧ n ≤ 12 ∧ xs.getD 0 0 = 0)) :
    Calls Try.prog 4 #[.slice p n cap] w fun e w' => e = .returned (.tuple #[.string ⟨#[]⟩, .string ⟨#[]⟩, .int .i64 2]) ∧ Below w.heap.size w w' := by
  by_cases h2 : n < 2
  · have d2 : (n : Int) < 2 := by omega
    clear h hR hn
    go_enter Try.func4, Try.ntmps4
    go_wp2
    go_ret3
    exact ⟨rfl, Below.refl _ _⟩
  · have d2 : ¬ (n : Int) < 2 := by omega
    by_cases h12 : 12 < n
    · have d3 : (12 : Int) < (n : Int) := by omega
      clear h hR hn
      go_enter Try.func4, Try.ntmps4
      go_wp2
      go_ret3
      exact ⟨rfl, Below.refl _ _⟩
    · have d3 : ¬ (12 : Int) < (n : Int) := by omega
      by_cases hm : n % 2 = 0
      · obtain ⟨ad, rfl⟩ := rd_some hR (show 0 < xs.length by omega)
        have c1 := hR.cell ad rfl 0 (by omega)
        rw [show ad.add 0 = ad by unfold Addr.add; split <;> simp_all] at c1
        have hx0 : xs.getD 0 0 ≠ 0 := fun e => h ⟨hm, by omega, by omega, e⟩
        obtain ⟨x, hxx⟩ : ∃ x, xs.getD 0 0 = x := ⟨_, rfl⟩
        rw [hxx] at c1 hx0
        have d1 : ((n : Int) % 2 != 0) = false := by simp; omega
        have d4 : (0 : Int) < (n : Int) := by omega
        have d5 : (x != 0) = true := by simpa using hx0
        have d6 : (x == 0) = false := by simpa using hx0
        have hn0 : ¬ n = 0 := by omega
        clear h hR hn hxx hx0
        go_enter Try.func4, Try.ntmps4
        go_wp2
        go_ret3
        exact ⟨rfl, Below.refl _ _⟩
      · have d1 : ((n : Int) % 2 != 0) = true := by simp; omega
        clear h hR hn
        go_enter Try.func4, Try.ntmps4
        go_wp2
        go_ret3
        exact ⟨rfl, Below.refl _ _⟩
theorem moo_both (xs : List Int) (hx : xs.length ≤ 1048576) : ∃ (s t : ByteArray) (c : Int),
    (∀ w p, Rd w p xs → Calls Try.prog 4 #[.slice p xs.length xs.length] w fun e w' => e = .returned (.tuple #[.string s, .string t, .int .i64 c]) ∧ Below w.heap.size w w')
    ∧ (∀ w p, Rd w p xs → Calls Try.prog 6 #[.slice p xs.length xs.length] w fun e w' => e = .returned (.tuple #[.string s, .string t, .int .i64 c]) ∧ Below w.heap.size w w') := by
  cases ho : ordB xs with
  | true =>
    have hb := ordB_bd ho
    have ho2 := ho
    unfold ordB at ho2
    simp only [Bool.and_eq_true, decide_eq_true_eq, beq_iff_eq] at ho2
    obtain ⟨⟨⟨a1, a2, a3⟩, a4⟩, a5⟩ := ho2
    have he : eachN xs.length xs (List.replicate 12 false) = true := by rw [← eachN_each _ a3]; exact a5
    have hS := fun w p (hR : Rd w p xs) => mos_ok p xs.length xs _ rfl w hR a1 a2 a3 a4 true he (fun _ => hb.2.2.2) _ _ rfl rfl _ _ rfl rfl
    have hI := fun w p (hR : Rd w p xs) => moi_ok p xs.length xs _ rfl hx w hR ho _ _ rfl rfl _ _ rfl rfl
    generalize uL xs (xs.length / 2) = U at *
    generalize dL xs (xs.length / 2) = V at *
    cases hu : crossB U with
    | true =>
      refine ⟨_, _, _, fun w p hR => (hS w p hR).mono fun e w' h => ⟨by rw [h.1, hu]; rfl, h.2⟩, fun w p hR => (hI w p hR).mono fun e w' h => ⟨by rw [h.1, hu]; rfl, h.2⟩⟩
    | false =>
      cases hv : crossB V with
      | true =>
        refine ⟨_, _, _, fun w p hR => (hS w p hR).mono fun e w' h => ⟨by rw [h.1, hu, hv]; rfl, h.2⟩, fun w p hR => (hI w p hR).mono fun e w' h => ⟨by rw [h.1, hu, hv]; rfl, h.2⟩⟩
      | false =>
        refine ⟨_, _, _, fun w p hR => (hS w p hR).mono fun e w' h => ⟨by rw [h.1, hu, hv]; rfl, h.2⟩, fun w p hR => (hI w p hR).mono fun e w' h => ⟨by rw [h.1, hu, hv]; rfl, h.2⟩⟩
  | false =>
    refine ⟨⟨#[]⟩, ⟨#[]⟩, 2, fun w p hR => ?_, fun w p hR => moi_bad p xs.length xs _ rfl hx w hR ho⟩
    by_cases h : xs.length % 2 = 0 ∧ 2 ≤ xs.length ∧ xs.length ≤ 12 ∧ xs.getD 0 0 = 0
    · obtain ⟨a1, a2, a3, a4⟩ := h
      have he : eachN xs.length xs (List.replicate 12 false) = false := by
        rw [← eachN_each _ a3]
        unfold ordB at ho
        rw [show decide (xs.length % 2 = 0 ∧ 2 ≤ xs.length ∧ xs.length ≤ 12) = true by simp; omega, a4] at ho
        simpa using ho
      exact (mos_ok p xs.length xs _ rfl w hR a1 a2 a3 a4 false he (fun h => by cases h) _ _ rfl rfl _ _ rfl rfl).mono fun e w' h => ⟨by rw [h.1]; rfl, h.2⟩
    · exact mos_bad p xs.length xs _ rfl hx w hR h
set_option maxRecDepth 1000000 in
theorem moo_walk (p : Option Addr) (cap : Nat) (xs : List Int) (w : World) (hx : xs.length ≤ 1048576) (hR : Rd w p xs) (s t : ByteArray) (c : Int)
    (hS : ∀ w p, Rd w p xs → Calls Try.prog 4 #[.slice p xs.length xs.length] w fun e w' => e = .returned (.tuple #[.string s, .string t, .int .i64 c]) ∧ Below w.heap.size w w')
    (hI : ∀ w p, Rd w p xs → Calls Try.prog 6 #[.slice p xs.length xs.length] w fun e w' => e = .returned (.tuple #[.string s, .string t, .int .i64 c]) ∧ Below w.heap.size w w') :
    Calls Try.prog 3 #[.slice p xs.length cap] w fun e w' => e = .returned (.bool true) ∧ Below w.heap.size w w' := by
  have hS' := Lib.hid hS
  have hI' := Lib.hid hI
  have hR' := Lib.hid hR
  have hc := Lib.hid (fun w hR => toI_any p cap xs hx w hR)
  have he := Lib.hid (fun p q cap cap' w hR hQ => eqI_same p q cap cap' xs (by omega) w hR hQ)
  have hx' : ¬ (1048576 : Int) < (xs.length : Int) := by omega
  clear hS hI hR
  go_enter Try.func3, Try.ntmps3
  go_wp2_with (first
    | (go_at_call 5; ((with_reducible refine (hc.out w5 (hR'.out.below b5)).mono ?_); rintro e w7 ⟨rfl, hO7, hB7⟩))
    | (go_at_call 5; ((with_reducible refine (hc.out w2 (hR'.out.below b2)).mono ?_); rintro e w4 ⟨rfl, hO4, hB4⟩; have b4 := b2.trans (hB4.mono b2.size)))
    | (go_at_call 5; ((with_reducible refine (hc.out w hR'.out).mono ?_); rintro e w1 ⟨rfl, hO1, hB1⟩))
    | ((go_at_call 4; ((with_reducible refine (hS'.out _ _ (Rd.own hO1)).mono ?_); rintro e w2 ⟨rfl, hB2⟩)); have b2 := hB1.trans (hB2.mono hB1.size))
    | ((go_at_call 6; ((with_reducible refine (hI'.out _ _ (Rd.own hO4)).mono ?_); rintro e w5 ⟨rfl, hB5⟩)); have b5 := b4.trans (hB5.mono b4.size); have hO45 := hO4.below hB5 hO4.lt)
    | (go_at_call 7; ((with_reducible refine (he.out _ _ _ _ w7 (Rd.own (hO45.below hB7 hO45.lt)) (Rd.own hO7)).mono ?_); rintro e w8 ⟨rfl, hB8⟩)))
  go_ret
  have b7 := b5.trans (hB7.mono b5.size)
  exact ⟨rfl, b7.trans (hB8.mono b7.size)⟩
theorem moo_big (p : Option Addr) (cap : Nat) (len : Nat) (w : World) (hm : len ≤ maxLen) (h : 1048576 < len) : Calls Try.prog 3 #[.slice p len cap] w fun e w' => e = .returned (.bool true) ∧ Below w.heap.size w w' := by
  unfold maxLen at hm
  have h' : (1048576 : Int) < (len : Int) := by omega
  go_enter Try.func3, Try.ntmps3
  go_wp2
  go_ret
  exact ⟨rfl, Below.refl _ _⟩
theorem moo_law (p : Option Addr) (cap : Nat) (xs : List Int) (w : World) (hm : xs.length ≤ maxLen) (hR : Rd w p xs) :
    Calls Try.prog 3 #[.slice p xs.length cap] w fun e w' => e = .returned (.bool true) ∧ Below w.heap.size w w' := by
  by_cases h : xs.length ≤ 1048576
  · obtain ⟨s, t, c, hS, hI⟩ := moo_both xs h
    exact moo_walk p cap xs w h hR s t c hS hI
  · exact moo_big p cap xs.length w hm (by omega)
end Go.Proofs.Ytbpecjfiilkobaa
