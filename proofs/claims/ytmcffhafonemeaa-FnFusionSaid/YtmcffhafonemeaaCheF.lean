/- ChebyshevNumber, FirstZero and ProjectionExists of the program. -/
import Derived.Test.YtmcffhafonemeaaCheP
import Derived.Test.YtmcffhafonemeaaImplA
namespace Go.Proofs.Ytmcffhafonemeaa
open Go.RowKit
set_option linter.unusedVariables false
/-- The number is prime, and the loop value in its range. -/
def modB (p c : Int) : Bool := primeB p && decide (0 ≤ c ∧ c < p)
theorem modB_spec {p c : Int} (h : modB p c = true) : primeB p = true ∧ 2 ≤ p ∧ p ≤ 97 ∧ 0 ≤ c ∧ c < p := by
  unfold modB at h
  rw [Bool.and_eq_true, decide_eq_true_iff] at h
  have h1 := h.1
  unfold primeB at h1
  rw [decide_eq_true_iff] at h1
  exact ⟨h.1, h1.1, h1.2.1, h.2.1, h.2.2⟩
theorem modI_t {p c : Int} (h : modB p c = true) (w : World) : Calls Try.prog 34 #[.int .i64 p, .int .i64 c] w fun e w' => e = .returned (.bool true) ∧ w' = w := by
  rw [← h]; exact modI_any p c w
theorem modI_f {p c : Int} (h : modB p c = false) (w : World) : Calls Try.prog 34 #[.int .i64 p, .int .i64 c] w fun e w' => e = .returned (.bool false) ∧ w' = w := by
  rw [← h]; exact modI_any p c w
set_option maxRecDepth 100000 in
theorem chebI_bad (p c k : Int) (w : World) (h : ¬ (modB p c = true ∧ 0 ≤ k ∧ k ≤ 1000)) :
    Calls Try.prog 16 #[.int .i64 p, .int .i64 c, .int .i64 k] w fun e w' => e = .returned (.tuple #[.int .i64 0, .int .i64 2]) ∧ w' = w := by
  cases hm : modB p c with
  | false =>
    have hc := Lib.hid (modI_f hm w)
    clear h hm
    go_enter Try.func16, Try.ntmps16
    go_wp2_with (first
      | (go_at_call 34; ((with_reducible refine (hc.out).mono ?_); rintro e w1 ⟨rfl, rfl⟩)))
    go_ret2
    exact ⟨rfl, rfl⟩
  | true =>
    have hc := Lib.hid (modI_t hm w)
    by_cases h1 : k < 0
    · clear h hm
      go_enter Try.func16, Try.ntmps16
      go_wp2_with (first
        | (go_at_call 34; ((with_reducible refine (hc.out).mono ?_); rintro e w1 ⟨rfl, rfl⟩)))
      go_ret2
      exact ⟨rfl, rfl⟩
    · have h2 : 1000 < k := by
        refine Decidable.byContradiction fun hn => h ⟨hm, by omega, by omega⟩
      clear h hm
      go_enter Try.func16, Try.ntmps16
      go_wp2_with (first
        | (go_at_call 34; ((with_reducible refine (hc.out).mono ?_); rintro e w1 ⟨rfl, rfl⟩)))
      go_ret2
      exact ⟨rfl, rfl⟩
set_option maxRecDepth 100000 in
theorem chebI_ok (p c : Int) (k : Nat) (w : World) (h : modB p c = true) (hk : k ≤ 1000) :
    Calls Try.prog 16 #[.int .i64 p, .int .i64 c, .int .i64 k] w fun e w' => e = .returned (.tuple #[.int .i64 (cheb p c k), .int .i64 0]) ∧ Below w.heap.size w w' := by
  obtain ⟨_, hp, hp2, hc0, hc1⟩ := modB_spec h
  have hc := Lib.hid (modI_t h w)
  have hr0 := recI_any p c hc0 hc1 w
  unfold nfun pfun at hr0
  have hr := Lib.hid hr0
  clear hr0
  have hn := Lib.hid (fun (B : ChB) (w1 : World) (hB : Below w.heap.size w w1) (hT : ChT w1 w.heap.size B p c 2) => numI_any w.heap.size B p c 1 k hp hp2 hc0 hc1 (by omega) (by omega) hk w1 hT hB.size)
  clear h hc0 hc1
  go_enter Try.func16, Try.ntmps16
  go_wp2_with (first
    | (go_at_call 34; ((with_reducible refine (hc.out).mono ?_); rintro e w1 ⟨rfl, rfl⟩))
    | (go_at_call 28; ((with_reducible refine (hr.out).mono ?_); rintro e w2 ⟨B, rfl, hT, hks, hB⟩))
    | (go_at_call 45; ((with_reducible refine (hn.out B _ hB hT).mono ?_); rintro e w3 ⟨rfl, hT3, hB3⟩)))
  go_ret2
  exact ⟨rfl, hB.trans hB3⟩
set_option maxRecDepth 100000 in
theorem zeroI_any (p c : Int) (w : World) (h : modB p c = true) :
    Calls Try.prog 35 #[.int .i64 p, .int .i64 c] w fun e w' => e = .returned (.int .i64 (fz p c)) ∧ Below w.heap.size w w' := by
  obtain ⟨hpr, hp, hp2, hc0, hc1⟩ := modB_spec h
  obtain ⟨z0, z1, z2⟩ := has_zero p c hpr hc0 hc1
  have hz := Lib.hid z0
  have hne := Lib.hid (fz_before p c)
  have hr0 := recI_any p c hc0 hc1 w
  unfold nfun pfun at hr0
  have hr := Lib.hid hr0
  have hn := Lib.hid (fun (B : ChB) (j0 k : Nat) (hj : 1 ≤ j0) (hj2 : j0 ≤ 1100) (hk : k ≤ 1000) (w1 : World) (hB : Below w.heap.size w w1) (hT : ChT w1 w.heap.size B p c (j0 + 1)) => (numI_any w.heap.size B p c j0 k hp hp2 hc0 hc1 hj hj2 hk w1 hT hB.size).mono fun e w' ⟨h1, h2, h3⟩ => (show e = _ ∧ ChS w.heap.size B p c j0 w1 w' from ⟨h1, h2, h3⟩))
  clear h hc0 hc1 hr0 z0
  generalize fz p c = z at *
  go_enter Try.func35, Try.ntmps35
  go_wp2_with (first
    | (go_at_call 28; ((with_reducible refine (hr.out).mono ?_); rintro e w2 ⟨B, rfl, hT, hks, hB⟩)))
  clear hks
  have hS0 := Lib.hid (show ChS w.heap.size B p c 1 w w2 from ⟨⟨1, by omega, by omega, hT⟩, hB⟩)
  clear hT hB hr
  go_loopw [7] (fun i wr => ∃ k : Nat, 1 ≤ k ∧ k ≤ z ∧ i = .int .i64 k ∧ ChS w.heap.size B p c 1 w wr) (fun i _ => ((z : Int) - intOf i).toNat)
  case atStart => exact ⟨1, by omega, by omega, rfl, hS0.out⟩
  case round =>
    clear hS0
    obtain ⟨k, hk1, hk2, rfl, hS⟩ := hrel
    obtain ⟨⟨j, j1, j2, hT⟩, hB⟩ := hS
    have hnk := Lib.hid (hn.out B j k (by omega) j2 (by omega) wr hB hT)
    clear hT
    by_cases hlt : k < z
    · have hx := hne.out k hk1 hlt
      generalize cheb p c k = x at *
      have b : (x != 0) = true := by simpa using hx
      clear hx
      go_wp2_with (first
        | (go_at_call 45; ((with_reducible refine (hnk.out).mono ?_); rintro e w3 ⟨rfl, hS3⟩)))
      go_roundw
      case rel => exact ⟨k + 1, by omega, by omega, by go_num, hS3.trans hB j1⟩
      case measure => simp [intOf]; omega
    · obtain rfl : k = z := by omega
      rw [hz.out] at hnk
      go_wp2_with (first
        | (go_at_call 45; ((with_reducible refine (hnk.out).mono ?_); rintro e w3 ⟨rfl, hS3⟩)))
      go_ret
      exact ⟨rfl, (hS3.trans hB j1).2⟩
set_option maxRecDepth 100000 in
theorem fzI_bad (p c : Int) (w : World) (h : modB p c = false) :
    Calls Try.prog 14 #[.int .i64 p, .int .i64 c] w fun e w' => e = .returned (.tuple #[.int .i64 0, .int .i64 2]) ∧ w' = w := by
  have hc := Lib.hid (modI_f h w)
  clear h
  go_enter Try.func14, Try.ntmps14
  go_wp2_with (first
    | (go_at_call 34; ((with_reducible refine (hc.out).mono ?_); rintro e w1 ⟨rfl, rfl⟩)))
  go_ret2
  exact ⟨rfl, rfl⟩
set_option maxRecDepth 100000 in
theorem fzI_ok (p c : Int) (w : World) (h : modB p c = true) :
    Calls Try.prog 14 #[.int .i64 p, .int .i64 c] w fun e w' => e = .returned (.tuple #[.int .i64 (fz p c), .int .i64 0]) ∧ Below w.heap.size w w' := by
  have hc := Lib.hid (modI_t h w)
  have hz := Lib.hid (zeroI_any p c w h)
  clear h
  go_enter Try.func14, Try.ntmps14
  go_wp2_with (first
    | (go_at_call 34; ((with_reducible refine (hc.out).mono ?_); rintro e w1 ⟨rfl, rfl⟩))
    | (go_at_call 35; ((with_reducible refine (hz.out).mono ?_); rintro e w2 ⟨rfl, hB⟩)))
  go_ret2
  exact ⟨rfl, hB⟩
end Go.Proofs.Ytmcffhafonemeaa
