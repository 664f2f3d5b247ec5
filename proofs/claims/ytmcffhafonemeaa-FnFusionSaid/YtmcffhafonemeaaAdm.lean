/- Labels, and whether three of them are admissible: program and model. -/
import Derived.Test.YtmcffhafonemeaaLawChe
import Derived.Test.YtmcffhafonemeaaSl
namespace Go.Proofs.Ytmcffhafonemeaa
open Go.RowKit
set_option linter.unusedVariables false
def labB (z : Int) (xs : List Int) : Bool := xs.all fun k => decide (0 ≤ k ∧ k < z)
theorem labB_bad {z : Int} {xs : List Int} {k : Nat} (hk : k < xs.length) (h : ¬ (0 ≤ xs.getD k 0 ∧ xs.getD k 0 < z)) : labB z xs = false := by
  rw [Bool.eq_false_iff]
  intro ht
  unfold labB at ht
  rw [List.all_eq_true] at ht
  have := ht (xs.getD k 0) (by rw [List.getD_eq_getElem?_getD, List.getElem?_eq_getElem hk]; exact List.getElem_mem hk)
  rw [decide_eq_true_iff] at this
  exact h this
theorem labB_step {z : Int} {xs : List Int} {k : Nat} (hk : k < xs.length) (h0 : 0 ≤ xs.getD k 0) (h1 : xs.getD k 0 < z) (h : labB z (xs.take k) = true) : labB z (xs.take (k + 1)) = true := by
  unfold labB at *
  rw [List.take_succ_eq_append_getElem hk, List.all_append, h, Bool.true_and]
  rw [List.getD_eq_getElem?_getD, List.getElem?_eq_getElem hk] at h0 h1
  simp at h0 h1 ⊢
  exact ⟨h0, h1⟩
set_option maxRecDepth 100000 in
theorem labI_any (z : Int) (xs : List Int) (cap g : Nat) (w : World) (hl : xs.length ≤ 3) (ho : Own w g (icells xs) 2) :
    Calls Try.prog 36 #[.int .i64 z, .slice (some ⟨g, 0, none⟩) xs.length cap] w fun e w' => e = .returned (.bool (labB z xs)) ∧ w = w' := by
  obtain ⟨b, hb⟩ : ∃ b, labB z xs = b := ⟨_, rfl⟩
  rw [hb]
  have hb' := Lib.hid hb
  clear hb
  go_enter Try.func36, Try.ntmps36
  go_wp2
  go_loopw [9] (fun i wr => ∃ k : Nat, k ≤ xs.length ∧ i = .int .i64 k ∧ Hid (labB z (xs.take k) = true) ∧ wr = w) (fun i _ => ((xs.length : Int) - intOf i).toNat)
  case atStart => exact ⟨0, by omega, rfl, Lib.hid rfl, rfl⟩
  case round =>
    obtain ⟨k, hk, rfl, hL, rfl⟩ := hrel
    by_cases hlt : k < xs.length
    · have c1 := ho.cell k
      rw [icells_get _ _ hlt] at c1
      have hbad := Lib.hid (fun h => labB_bad (z := z) hlt h)
      have hstep := Lib.hid (fun h0 h1 => labB_step (z := z) hlt h0 h1 hL.out)
      generalize xs.getD k 0 = x at *
      by_cases h0 : x < 0
      · have e : b = false := by rw [← hb'.out]; exact hbad.out (by omega)
        subst e
        go_wp2
        go_ret
        exact ⟨rfl, rfl⟩
      · by_cases h1 : x < z
        · have hs2 := Lib.hid (hstep.out (by omega) h1)
          go_wp2
          go_roundw
          case rel => exact ⟨k + 1, by omega, by go_num, hs2, trivial⟩
          case measure => simp [intOf]; omega
        · have e : b = false := by rw [← hb'.out]; exact hbad.out (by omega)
          subst e
          go_wp2
          go_ret
          exact ⟨rfl, rfl⟩
    · have e : b = true := by
        rw [← hb'.out]
        have := hL.out
        rw [List.take_of_length_le (by omega)] at this
        exact this
      subst e
      go_wp2
      go_ret
      exact ⟨rfl, rfl⟩
set_option maxRecDepth 100000 in
theorem labS_bad (p c : Int) (v : Value) (w : World) (hr : -9223372036854775808 ≤ p ∧ p ≤ 9223372036854775807) (h : modB p c = false) :
    Calls Try.prog 30 #[.int .i64 p, .int .i64 c, v] w fun e w' => e = .returned (.tuple #[.int .i64 0, .int .i64 2]) ∧ w = w' := by
  have hc0 := codeS_any p c w hr
  rw [h, if_neg (by simp)] at hc0
  have hc := Lib.hid hc0
  clear h hr hc0
  go_enter Try.func30, Try.ntmps30
  go_wp2_with (first
    | (go_at_call 38; ((with_reducible refine (hc.out).mono ?_); rintro e w1 ⟨rfl, rfl⟩)))
  go_ret2
  exact ⟨rfl, rfl⟩
set_option maxRecDepth 100000 in
theorem labS_ok (p c : Int) (xs : List Int) (cap g : Nat) (w : World) (h : modB p c = true) (hl : xs.length ≤ 3) (ho : Own w g (icells xs) 2) :
    Calls Try.prog 30 #[.int .i64 p, .int .i64 c, .slice (some ⟨g, 0, none⟩) xs.length cap] w fun e w' => e = .returned (.tuple #[.int .i64 (if labB (fz p c) xs then fz p c else 0), .int .i64 (if labB (fz p c) xs then 0 else 2)]) ∧ w = w' := by
  obtain ⟨hpr, hp, hp2, c0, c1⟩ := modB_spec h
  have hz97 := (has_zero p c hpr c0 c1).2.2
  have hc0 := codeS_any p c w ⟨by omega, by omega⟩
  rw [h, if_pos rfl] at hc0
  have hc := Lib.hid hc0
  have hz := Lib.hid (zeroS_any p c w h)
  clear h hc0
  generalize fz p c = z at *
  obtain ⟨b, hb⟩ : ∃ b, labB z xs = b := ⟨_, rfl⟩
  rw [hb]
  have hb' := Lib.hid hb
  clear hb
  go_enter Try.func30, Try.ntmps30
  go_wp2_with (first
    | (go_at_call 38; ((with_reducible refine (hc.out).mono ?_); rintro e w1 ⟨rfl, rfl⟩))
    | (go_at_call 39; ((with_reducible refine (hz.out).mono ?_); rintro e w1 ⟨rfl, rfl⟩)))
  go_loopw [10] (fun i wr => ∃ k : Nat, k ≤ xs.length ∧ i = .int .i64 k ∧ Hid (labB z (xs.take k) = true) ∧ wr = w) (fun i _ => ((xs.length : Int) - intOf i).toNat)
  case atStart => exact ⟨0, by omega, rfl, Lib.hid rfl, rfl⟩
  case round =>
    obtain ⟨k, hk, rfl, hL, rfl⟩ := hrel
    by_cases hlt : k < xs.length
    · have c1 := ho.cell k
      rw [icells_get _ _ hlt] at c1
      have hbad := Lib.hid (fun h => labB_bad (z := z) hlt h)
      have hstep := Lib.hid (fun h0 h1 => labB_step (z := z) hlt h0 h1 hL.out)
      generalize xs.getD k 0 = x at *
      by_cases h0 : 0 ≤ x ∧ x ≤ (z : Int) - 1
      · obtain ⟨h0, h1⟩ := h0
        have hs2 := Lib.hid (hstep.out (by omega) (by omega))
        go_wp2_with (first
          | (go_at_call 42; ((with_reducible refine (inS_t x 0 ((z : Int) - 1) _ h0 h1).mono ?_); rintro e w1 ⟨rfl, rfl⟩)))
        go_roundw
        case rel => exact ⟨k + 1, by omega, by go_num, hs2, trivial⟩
        case measure => simp [intOf]; omega
      · have h1 : x < 0 ∨ (z : Int) - 1 < x := by omega
        have e : b = false := by rw [← hb'.out]; exact hbad.out (by omega)
        subst e
        clear h0
        go_wp2_with (first
          | (go_at_call 42; ((with_reducible refine (inS_f x 0 ((z : Int) - 1) _ h1).mono ?_); rintro e w1 ⟨rfl, rfl⟩)))
        go_ret2
        exact ⟨rfl, rfl⟩
    · have e : b = true := by
        rw [← hb'.out]
        have := hL.out
        rw [List.take_of_length_le (by omega)] at this
        exact this
      subst e
      go_wp2
      go_ret2
      exact ⟨rfl, rfl⟩
theorem ret_bool {a b : Bool} (h : a = b) : Ending.returned (.bool a) = .returned (.bool b) := by rw [h]
def admB (z a b d : Int) : Bool := decide ((a + b + d) % 2 = 0 ∧ a ≤ b + d ∧ b ≤ a + d ∧ d ≤ a + b ∧ a + b + d ≤ 2 * (z - 1))
set_option maxRecDepth 100000 in
theorem admI_any (z a b d : Int) (w : World) (z1 : 1 ≤ z) (z2 : z ≤ 97) (a0 : 0 ≤ a) (a1 : a < z) (b0 : 0 ≤ b) (b1 : b < z) (d0 : 0 ≤ d) (d1 : d < z) :
    Calls Try.prog 37 #[.int .i64 z, .int .i64 a, .int .i64 b, .int .i64 d] w fun e w' => e = .returned (.bool (admB z a b d)) ∧ w = w' := by
  go_enter Try.func37, Try.ntmps37
  go_wp2
  all_goals
    go_ret
    refine ⟨ret_bool ?_, rfl⟩
    unfold admB
    rw [Bool.eq_iff_iff]
    simp only [decide_eq_true_iff, Bool.false_eq_true, false_iff]
    omega
set_option maxRecDepth 100000 in
theorem admS_any (z a b d : Int) (w : World) (z1 : 1 ≤ z) (z2 : z ≤ 97) (a0 : 0 ≤ a) (a1 : a < z) (b0 : 0 ≤ b) (b1 : b < z) (d0 : 0 ≤ d) (d1 : d < z) :
    Calls Try.prog 31 #[.int .i64 z, .int .i64 a, .int .i64 b, .int .i64 d] w fun e w' => e = .returned (.bool (admB z a b d)) ∧ w = w' := by
  go_enter Try.func31, Try.ntmps31
  go_wp2
  all_goals
    go_ret
    refine ⟨ret_bool ?_, rfl⟩
    unfold admB
    rw [Bool.eq_iff_iff]
    simp only [decide_eq_true_iff, Bool.false_eq_true, false_iff]
    omega
end Go.Proofs.Ytmcffhafonemeaa
