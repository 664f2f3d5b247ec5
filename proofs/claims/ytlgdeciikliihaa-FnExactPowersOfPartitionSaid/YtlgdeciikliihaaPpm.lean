/- Powers of a partition, plain: one comes back. -/
import Derived.Test.YtlgdeciikliihaaPtx
namespace Go.Proofs.Ytlgdeciikliihaa
open Go.RowKit
set_option linter.unusedVariables false
theorem pigeon (n : Nat) : ∀ f : Nat → Nat, (∀ i, i ≤ n → f i < n) → ∃ i j, i < j ∧ j ≤ n ∧ f i = f j := by
  induction n with
  | zero => intro f h; have := h 0 (Nat.le_refl _); omega
  | succ n ih =>
    intro f h
    by_cases hv : ∃ i, i ≤ n ∧ f i = f (n + 1)
    · obtain ⟨i, hi, he⟩ := hv
      exact ⟨i, n + 1, by omega, Nat.le_refl _, he⟩
    · have hv' : ∀ i, i ≤ n → f i ≠ f (n + 1) := fun i hi he => hv ⟨i, hi, he⟩
      obtain ⟨i, j, hij, hj, he⟩ := ih (fun i => if f i = n then f (n + 1) else f i) (fun i hi => by
        have h1 := h i (by omega)
        have h2 := h (n + 1) (Nat.le_refl _)
        have h3 := hv' i hi
        show (if f i = n then f (n + 1) else f i) < n
        split <;> omega)
      refine ⟨i, j, hij, by omega, ?_⟩
      have a := hv' i (by omega)
      have b := hv' j hj
      have he' : (if f i = n then f (n + 1) else f i) = (if f j = n then f (n + 1) else f j) := he
      split at he' <;> split at he' <;> omega
theorem least_nat (Q : Nat → Prop) (n : Nat) (h : Q n) : ∃ m, m ≤ n ∧ Q m ∧ ∀ k, k < m → ¬ Q k := by
  induction n using Nat.strongRecOn with
  | _ n ih =>
    by_cases hx : ∃ k, k < n ∧ Q k
    · obtain ⟨k, hk, hq⟩ := hx
      obtain ⟨m, hm, h1, h2⟩ := ih k hk hq
      exact ⟨m, by omega, h1, h2⟩
    · exact ⟨n, Nat.le_refl _, h, fun k hk hq => hx ⟨k, hk, hq⟩⟩
/-- A list of numbers below 8 as one number. -/
def cdL : List Int → Nat
  | [] => 0
  | x :: xs => x.toNat + 8 * cdL xs
theorem cdL_lt (xs : List Int) (h : ∀ i, 0 ≤ xs.getD i 0 ∧ xs.getD i 0 < 8) : cdL xs < 8 ^ xs.length := by
  induction xs with
  | nil => simp [cdL]
  | cons x xs ih =>
    have h0 := h 0
    have h1 := ih (fun i => by simpa using h (i + 1))
    simp at h0
    rw [cdL, List.length_cons, Nat.pow_succ]
    omega
theorem cdL_inj (xs : List Int) : ∀ ys : List Int, xs.length = ys.length → (∀ i, 0 ≤ xs.getD i 0 ∧ xs.getD i 0 < 8) → (∀ i, 0 ≤ ys.getD i 0 ∧ ys.getD i 0 < 8) → cdL xs = cdL ys → xs = ys := by
  induction xs with
  | nil => intro ys hl _ _ _; cases ys with | nil => rfl | cons y ys => simp at hl
  | cons x xs ih =>
    intro ys hl h1 h2 he
    cases ys with
    | nil => simp at hl
    | cons y ys =>
      have a := h1 0
      have b := h2 0
      simp at a b
      rw [cdL, cdL] at he
      have hx : x = y := by omega
      have := ih ys (by simpa using hl) (fun i => by simpa using h1 (i + 1)) (fun i => by simpa using h2 (i + 1)) (by omega)
      rw [hx, this]
/-- The powers of a partition. -/
def pwP (N : Nat) (A : List Int) : Nat → List Int
  | 0 => A
  | i + 1 => prP N (pwP N A i) A
theorem pwP_len (N : Nat) (A : List Int) (hA : A.length = 8) (h4 : N ≤ 4) (i : Nat) : (pwP N A i).length = 8 := by
  cases i with
  | zero => exact hA
  | succ i => exact told_len _ (by rw [List.length_take, lab_len, nods_len]; omega)
theorem pwP_nums (N : Nat) (A : List Int) (hA : Nums A) (h4 : N ≤ 4) (i : Nat) : Nums (pwP N A i) := by
  cases i with
  | zero => exact hA
  | succ i => exact told_nums _ (by rw [List.length_take, lab_len, nods_len]; omega)
/-- The first power that comes back, and where it stands before. -/
theorem pwP_back (N : Nat) (A : List Int) (h8 : A.length = 8) (hA : Nums A) (h4 : N ≤ 4) : ∃ M I, I < M ∧ M ≤ 16777216 ∧ pwP N A I = pwP N A M ∧ ∀ a b, a < b → b < M → pwP N A a ≠ pwP N A b := by
  obtain ⟨i, j, hij, hj, he⟩ := pigeon 16777216 (fun i => cdL (pwP N A i)) (fun i _ => by
    have := cdL_lt _ (pwP_nums N A hA h4 i)
    rw [pwP_len N A h8 h4 i] at this
    exact this)
  have he' := cdL_inj _ _ ((pwP_len N A h8 h4 i).trans (pwP_len N A h8 h4 j).symm) (pwP_nums N A hA h4 i) (pwP_nums N A hA h4 j) he
  obtain ⟨M, hM, ⟨I, hI, hq⟩, hmin⟩ := least_nat (fun m => ∃ i, i < m ∧ pwP N A i = pwP N A m) j ⟨i, hij, he'⟩
  exact ⟨M, I, hI, by omega, hq, fun a b hab hb hx => hmin b hb ⟨a, hab, hx⟩⟩
end Go.Proofs.Ytlgdeciikliihaa
