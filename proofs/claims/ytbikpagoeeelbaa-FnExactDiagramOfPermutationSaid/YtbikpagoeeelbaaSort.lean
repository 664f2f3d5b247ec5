/- The word of a permutation: neighbours that descend are exchanged until none do. -/
import Derived.Test.YtbikpagoeeelbaaWordM
import Derived.Test.YtbikpagoeeelbaaLst
namespace Go.Proofs.Ytbikpagoeeelbaa
open Go.RowKit
set_option linter.unusedVariables false
/-- The exchanges that follow when the places from i on are looked at. -/
inductive Run : List Int → Nat → List Nat → Prop where
  | done (xs i) : ¬ i + 1 < xs.length → Run xs i []
  | up (xs i W) : i + 1 < xs.length → xs.getD i 0 < xs.getD (i + 1) 0 → Run xs (i + 1) W → Run xs i W
  | down (xs i W) : i + 1 < xs.length → ¬ xs.getD i 0 < xs.getD (i + 1) 0 → Run (sw xs i) 0 W → Run xs i (i :: W)
theorem sw_len (xs : List Int) (i : Nat) : (sw xs i).length = xs.length := by simp [sw]
theorem sw_app (A C : List Int) (a b : Int) : sw (A ++ a :: b :: C) A.length = A ++ b :: a :: C := by
  have e1 : (A ++ a :: b :: C).getD (A.length + 1) 0 = b := by simp [List.getD_eq_getElem?_getD]
  have e2 : (A ++ a :: b :: C).getD A.length 0 = a := by simp [List.getD_eq_getElem?_getD]
  unfold sw; rw [e1, e2]
  simp
theorem cut2 (xs : List Int) (i : Nat) (h : i + 1 < xs.length) : ∃ A C, A.length = i ∧ xs = A ++ xs.getD i 0 :: xs.getD (i + 1) 0 :: C := by
  refine ⟨xs.take i, xs.drop (i + 2), by simp; omega, ?_⟩
  have := List.take_append_drop i xs
  rw [drop_step xs i (by omega), drop_step xs (i + 1) h] at this
  exact this.symm
def phi : Int → List Int → Int
  | _, [] => 0
  | k, x :: xs => k * x + phi (k + 1) xs
theorem phi_app (A B : List Int) : ∀ k, phi k (A ++ B) = phi k A + phi (k + A.length) B := by
  induction A with
  | nil => intro k; simp [phi]
  | cons a A ih =>
    intro k
    have e : k + 1 + (A.length : Int) = k + ((a :: A).length : Int) := by simp; omega
    show k * a + phi (k + 1) (A ++ B) = k * a + phi (k + 1) A + phi (k + ((a :: A).length : Int)) B
    rw [ih, e]; omega
theorem phi_sw (A C : List Int) (a b : Int) : phi 0 (A ++ b :: a :: C) = phi 0 (A ++ a :: b :: C) + (a - b) := by
  rw [phi_app, phi_app]
  simp only [phi]
  generalize phi 0 A = u
  generalize phi _ C = v
  generalize (0 : Int) + A.length = k
  have h1 : (k + 1) * a = k * a + a := by rw [Int.add_mul, Int.one_mul]
  have h2 : (k + 1) * b = k * b + b := by rw [Int.add_mul, Int.one_mul]
  rw [h1, h2]; omega
theorem phi_le (m : Int) (hm : 0 ≤ m) (xs : List Int) (h : ∀ x ∈ xs, 0 ≤ x ∧ x ≤ m) : ∀ k, 0 ≤ k → 0 ≤ phi k xs ∧ phi k xs ≤ (k + xs.length) * m * xs.length := by
  induction xs with
  | nil => intro k _; simp [phi]
  | cons x xs ih =>
    intro k hk
    obtain ⟨i1, i2⟩ := ih (fun y hy => h y (by simp [hy])) (k + 1) (by omega)
    obtain ⟨x0, x1⟩ := h x (by simp)
    have a1 : 0 ≤ k * x := Int.mul_nonneg hk x0
    have a2 : k * x ≤ k * m := Int.mul_le_mul_of_nonneg_left x1 hk
    have a3 : k * m ≤ (k + ((x :: xs).length : Int)) * m := Int.mul_le_mul_of_nonneg_right (by simp; omega) hm
    show 0 ≤ k * x + phi (k + 1) xs ∧ k * x + phi (k + 1) xs ≤ _
    have e : (k + 1 + (xs.length : Int)) = k + ((x :: xs).length : Int) := by simp; omega
    rw [e] at i2
    have e2 : (k + ((x :: xs).length : Int)) * m * ((x :: xs).length : Int) = (k + ((x :: xs).length : Int)) * m * (xs.length : Int) + (k + ((x :: xs).length : Int)) * m := by
      rw [show ((x :: xs).length : Int) = (xs.length : Int) + 1 by simp, Int.mul_add, Int.mul_one]
    rw [e2]
    omega
/-- What the machines need of a list. -/
def Prm (xs : List Int) : Prop := xs.length ≤ 8 ∧ xs.Nodup ∧ ∀ x ∈ xs, 0 ≤ x ∧ x ≤ 7
theorem phi_bd {xs : List Int} (h : Prm xs) : 0 ≤ phi 0 xs ∧ phi 0 xs ≤ 448 := by
  obtain ⟨h8, _, hb⟩ := h
  obtain ⟨a, b⟩ := phi_le 7 (by omega) xs hb 0 (by omega)
  refine ⟨a, ?_⟩
  have : ∀ n : Nat, n ≤ 8 → ((0 + (n : Int)) * 7 * n) ≤ 448 := by decide
  have := this xs.length h8
  omega
theorem Prm.ne {xs : List Int} (h : Prm xs) {i : Nat} (hi : i + 1 < xs.length) : xs.getD i 0 ≠ xs.getD (i + 1) 0 := by
  obtain ⟨A, C, hA, e⟩ := cut2 xs i hi
  have hn := h.2.1
  rw [e] at hn
  have := (List.nodup_append.1 hn).2.1
  intro he
  rw [he] at this
  simp at this
theorem Prm.sw {xs : List Int} (h : Prm xs) {i : Nat} (hi : i + 1 < xs.length) : Prm (sw xs i) := by
  obtain ⟨A, C, hA, e⟩ := cut2 xs i hi
  obtain ⟨h1, h2, h3⟩ := h
  generalize xs.getD i 0 = a at e
  generalize xs.getD (i + 1) 0 = b at e
  subst hA
  subst e
  rw [sw_app]
  have hp : List.Perm (A ++ b :: a :: C) (A ++ a :: b :: C) := List.Perm.append_left A (List.Perm.swap a b C)
  refine ⟨by rw [hp.length_eq]; exact h1, hp.nodup_iff.2 h2, fun x hx => h3 x (hp.mem_iff.1 hx)⟩
theorem sw_phi {xs : List Int} (h : Prm xs) {i : Nat} (hi : i + 1 < xs.length) (hd : ¬ xs.getD i 0 < xs.getD (i + 1) 0) : phi 0 xs + 1 ≤ phi 0 (Go.Proofs.Ytbikpagoeeelbaa.sw xs i) := by
  have hne := h.ne hi
  obtain ⟨A, C, hA, e⟩ := cut2 xs i hi
  generalize xs.getD i 0 = a at e hd hne
  generalize xs.getD (i + 1) 0 = b at e hd hne
  subst hA
  subst e
  rw [sw_app, phi_sw]
  omega
/-- There are such exchanges, and not too many. -/
theorem run_ex (f : Nat) : ∀ (xs : List Int) (i : Nat), Prm xs → i ≤ xs.length → (448 - phi 0 xs) * 9 + ((xs.length : Int) - i) ≤ f → ∃ W : List Nat, Run xs i W ∧ (W.length : Int) ≤ 448 - phi 0 xs ∧ ∀ x ∈ W, x + 1 < xs.length := by
  induction f with
  | zero =>
    intro xs i hP hi hf
    have hb := phi_bd hP
    have h8 := hP.1
    exact ⟨[], Run.done xs i (by omega), by simp; omega, by simp⟩
  | succ f ih =>
    intro xs i hP hi hf
    have hb := phi_bd hP
    have h8 := hP.1
    by_cases h : i + 1 < xs.length
    · by_cases g : xs.getD i 0 < xs.getD (i + 1) 0
      · obtain ⟨W, h1, h2, h3⟩ := ih xs (i + 1) hP (by omega) (by omega)
        exact ⟨W, Run.up xs i W h g h1, h2, h3⟩
      · have hp := sw_phi hP h g
        have hl := sw_len xs i
        obtain ⟨W, h1, h2, h3⟩ := ih (sw xs i) 0 (hP.sw h) (by omega) (by rw [hl]; omega)
        refine ⟨i :: W, Run.down xs i W h g h1, by simp; omega, ?_⟩
        intro x hx
        rcases List.mem_cons.1 hx with rfl | hx
        · exact h
        · have := h3 x hx; omega
    · exact ⟨[], Run.done xs i h, by simp; omega, by simp⟩
/-- The places ahead of j ascend. -/
def Asc (xs : List Int) (j : Nat) : Prop := ∀ k, k < j → k + 1 < xs.length → xs.getD k 0 < xs.getD (k + 1) 0
theorem Asc.next {xs : List Int} {j : Nat} (h : Asc xs j) (hd : xs.getD j 0 < xs.getD (j + 1) 0) : Asc xs (j + 1) := by
  intro k hk hk2
  by_cases e : k = j
  · subst e; exact hd
  · exact h k (by omega) hk2
theorem Run.skip {xs : List Int} {W : List Nat} (h : Run xs 0 W) : ∀ {j : Nat}, Asc xs j → j < xs.length → Run xs j W := by
  intro j
  induction j with
  | zero => intro _ _; exact h
  | succ j ih =>
    intro hA hj
    have h0 := ih (fun k hk => hA k (by omega)) (by omega)
    have hlt := hA j (by omega) hj
    cases h0 with
    | done _ _ hn => exact absurd hj hn
    | up _ _ _ _ _ hr => exact hr
    | down _ _ _ _ hn _ => exact absurd hlt hn
theorem sw_asc {xs : List Int} {i : Nat} (h : Asc xs i) (hi : i + 1 < xs.length) : Asc (sw xs i) (i - 1) := by
  intro k hk hk2
  rw [sw_len] at hk2
  have e : ∀ m, m < i → (sw xs i).getD m 0 = xs.getD m 0 := by
    intro m hm
    simp [sw, List.getD_eq_getElem?_getD, show ¬ i + 1 = m by omega, show ¬ i = m by omega]
  rw [e k (by omega), e (k + 1) (by omega)]
  exact h k (by omega) hk2
/-- The word: the exchanges, the last one first. -/
def wordOf (W : List Nat) : List Int := W.reverse.map Int.ofNat
end Go.Proofs.Ytbikpagoeeelbaa
