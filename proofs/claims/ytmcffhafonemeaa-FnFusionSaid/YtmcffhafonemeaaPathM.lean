/- Numbers of ways along a row of places, as plain lists. -/
import Derived.Test.YtmcffhafonemeaaSl
namespace Go.Proofs.Ytmcffhafonemeaa
/-- The ways to a place: the places are 1 to z, the way begins at 1. -/
def pth (z : Nat) : Nat → Nat → Int
  | 0, j => if j = 1 then 1 else 0
  | n + 1, j => if 1 ≤ j ∧ j ≤ z then pth z n (j - 1) + pth z n (j + 1) else 0
theorem pth_range (z : Nat) : ∀ (n j : Nat), 0 ≤ pth z n j ∧ pth z n j ≤ 2 ^ n := by
  intro n
  induction n with
  | zero => intro j; unfold pth; split <;> simp
  | succ n ih =>
    intro j
    have h1 := ih (j - 1)
    have h2 := ih (j + 1)
    have e : (2 : Int) ^ (n + 1) = 2 ^ n + 2 ^ n := by rw [Int.pow_succ]; omega
    have h0 : (0 : Int) ≤ 2 ^ n := by omega
    unfold pth
    rw [e]
    split <;> omega
theorem pth_zero (z n : Nat) : pth z n 0 = 0 := by
  cases n with
  | zero => simp [pth]
  | succ n => simp [pth]
theorem pth_past (z n : Nat) (hz : 1 ≤ z) : pth z n (z + 1) = 0 := by
  cases n with
  | zero => unfold pth; rw [if_neg (by omega)]
  | succ n => unfold pth; rw [if_neg (by omega)]
theorem pth_next (z n j : Nat) (h1 : 1 ≤ j) (h2 : j ≤ z) : pth z (n + 1) j = pth z n (j - 1) + pth z n (j + 1) := by
  rw [pth, if_pos ⟨h1, h2⟩]
theorem pth_le (z n j : Nat) (hn : n ≤ 40) : 0 ≤ pth z n j ∧ pth z n j ≤ 1099511627776 := by
  have h := pth_range z n j
  have : (2 : Int) ^ n ≤ 2 ^ 40 := by
    have := Nat.pow_le_pow_right (n := 2) (by omega) hn
    exact_mod_cast this
  have e : (2 : Int) ^ 40 = 1099511627776 := by decide
  omega
/-- A row by its places. -/
def rowf (n : Nat) (f : Nat → Int) : List Int := (List.range n).map f
theorem rowf_len (n : Nat) (f : Nat → Int) : (rowf n f).length = n := by simp [rowf]
theorem rowf_get (n : Nat) (f : Nat → Int) (j : Nat) (h : j < n) : (rowf n f).getD j 0 = f j := by
  rw [List.getD_eq_getElem?_getD]; simp [rowf, h]
theorem rowf_set (n : Nat) (f g : Nat → Int) (k : Nat) (x : Int) (h : k < n) (hx : x = g k) (hg : ∀ j, j < n → j ≠ k → f j = g j) : (rowf n f).set k x = rowf n g := by
  apply List.ext_getElem?
  intro i
  rw [List.getElem?_set]
  by_cases e : k = i
  · subst e
    rw [if_pos rfl, if_pos (by rw [rowf_len]; exact h)]
    simp [rowf, h, hx]
  · rw [if_neg e]
    by_cases hi : i < n
    · simp [rowf, hi, hg i hi (fun h => e h.symm)]
    · rw [List.getElem?_eq_none (by rw [rowf_len]; omega), List.getElem?_eq_none (by rw [rowf_len]; omega)]
theorem rowf_eq (n : Nat) (f g : Nat → Int) (h : ∀ j, j < n → f j = g j) : rowf n f = rowf n g := by
  apply List.ext_getElem?
  intro i
  by_cases hi : i < n
  · simp [rowf, hi, h i hi]
  · rw [List.getElem?_eq_none (by rw [rowf_len]; omega), List.getElem?_eq_none (by rw [rowf_len]; omega)]
theorem rowf_zero (n : Nat) (f : Nat → Int) (h : ∀ j, j < n → f j = 0) : List.replicate n (0 : Int) = rowf n f := by
  apply List.ext_getElem?
  intro i
  by_cases hi : i < n
  · simp [rowf, hi, h i hi]
  · rw [List.getElem?_eq_none (by simpa using hi), List.getElem?_eq_none (by rw [rowf_len]; omega)]
/-- The program's row behind n steps, and the next one behind some places. -/
def wI (z n : Nat) : Nat → Int := fun j => pth z n j
def nI (z n k : Nat) : Nat → Int := fun j => if j < k then pth z (n + 1) j else 0
/-- The model's rows. -/
def wS (z n : Nat) : Nat → Int := fun j => pth z n (j + 1)
def nS (z n k : Nat) : Nat → Int := fun j => (if j ≤ k then pth z n j else 0) + (if j + 1 < k then pth z n (j + 2) else 0)
/-- In the middle of a round: the place before has been given to. -/
def mS (z n k : Nat) : Nat → Int := fun j => (if j ≤ k then pth z n j else 0) + (if j < k then pth z n (j + 2) else 0)
theorem nI_set (z n k : Nat) (hk1 : 1 ≤ k) (hk : k ≤ z) : (rowf (z + 2) (nI z n k)).set k (pth z n (k - 1) + pth z n (k + 1)) = rowf (z + 2) (nI z n (k + 1)) := by
  refine rowf_set _ _ _ _ _ (by omega) ?_ ?_
  · unfold nI; rw [if_pos (by omega), pth_next _ _ _ hk1 hk]
  · intro j hj hne
    unfold nI
    by_cases h : j < k
    · rw [if_pos h, if_pos (by omega)]
    · rw [if_neg h, if_neg (by omega)]
theorem nI_start (z n : Nat) : List.replicate (z + 2) (0 : Int) = rowf (z + 2) (nI z n 1) := by
  refine rowf_zero _ _ ?_
  intro j _
  unfold nI
  by_cases h : j < 1
  · rw [if_pos h]; obtain rfl : j = 0 := by omega
    exact pth_zero _ _
  · rw [if_neg h]
theorem nI_end (z n : Nat) (hz : 1 ≤ z) : rowf (z + 2) (nI z n (z + 1)) = rowf (z + 2) (wI z (n + 1)) := by
  refine rowf_eq _ _ _ ?_
  intro j hj
  unfold nI wI
  by_cases h : j < z + 1
  · rw [if_pos h]
  · rw [if_neg h]; obtain rfl : j = z + 1 := by omega
    exact (pth_past _ _ hz).symm
theorem wI_start (z : Nat) : (List.replicate (z + 2) (0 : Int)).set 1 1 = rowf (z + 2) (wI z 0) := by
  rw [rowf_zero (z + 2) (fun _ => 0) (fun _ _ => rfl)]
  refine rowf_set _ _ _ _ _ (by omega) ?_ ?_
  · simp [wI, pth]
  · intro j _ hne; simp [wI, pth, hne]
theorem wS_start (z : Nat) (hz : 1 ≤ z) : (List.replicate z (0 : Int)).set 0 1 = rowf z (wS z 0) := by
  rw [rowf_zero z (fun _ => 0) (fun _ _ => rfl)]
  refine rowf_set _ _ _ _ _ (by omega) ?_ ?_
  · simp [wS, pth]
  · intro j _ hne; simp [wS, pth, hne]
theorem nS_start (z n : Nat) : List.replicate z (0 : Int) = rowf z (nS z n 0) := by
  refine rowf_zero _ _ ?_
  intro j _
  unfold nS
  rw [if_neg (show ¬ j + 1 < 0 by omega)]
  by_cases h : j ≤ 0
  · rw [if_pos h]; obtain rfl : j = 0 := by omega
    rw [pth_zero]; rfl
  · rw [if_neg h]; rfl
theorem nS_first (z n : Nat) : rowf z (nS z n 0) = rowf z (mS z n 0) := by
  refine rowf_eq _ _ _ ?_
  intro j _
  unfold nS mS
  rw [if_neg (show ¬ j + 1 < 0 by omega), if_neg (show ¬ j < 0 by omega)]
theorem nS_down (z n k : Nat) (h1 : 1 ≤ k) (hk : k < z) : (rowf z (nS z n k)).set (k - 1) (nS z n k (k - 1) + pth z n (k + 1)) = rowf z (mS z n k) := by
  refine rowf_set _ _ _ _ _ (by omega) ?_ ?_
  · unfold nS mS
    rw [if_pos (by omega), if_neg (by omega), if_pos (by omega), show k - 1 + 2 = k + 1 by omega]; omega
  · intro j _ hne
    unfold nS mS
    by_cases h : j < k
    · by_cases h2 : j + 1 < k
      · rw [if_pos h2, if_pos h]
      · omega
    · rw [if_neg (show ¬ j + 1 < k by omega), if_neg h]
theorem nS_up (z n k : Nat) (hk : k + 1 < z) : (rowf z (mS z n k)).set (k + 1) (mS z n k (k + 1) + pth z n (k + 1)) = rowf z (nS z n (k + 1)) := by
  refine rowf_set _ _ _ _ _ (by omega) ?_ ?_
  · unfold nS mS
    rw [if_neg (by omega), if_neg (by omega), if_pos (by omega), if_neg (by omega)]; omega
  · intro j _ hne
    unfold nS mS
    by_cases h : j ≤ k
    · rw [if_pos h, if_pos (show j ≤ k + 1 by omega)]
      by_cases h2 : j < k
      · rw [if_pos h2, if_pos (show j + 1 < k + 1 by omega)]
      · rw [if_neg h2, if_neg (show ¬ j + 1 < k + 1 by omega)]
    · rw [if_neg h, if_neg (show ¬ j ≤ k + 1 by omega), if_neg (show ¬ j < k by omega), if_neg (show ¬ j + 1 < k + 1 by omega)]
theorem mS_last (z n : Nat) (hz : 1 ≤ z) : rowf z (mS z n (z - 1)) = rowf z (wS z (n + 1)) := by
  refine rowf_eq _ _ _ ?_
  intro j hj
  unfold mS wS
  rw [pth_next _ _ _ (by omega) (by omega), if_pos (by omega)]
  congr 1
  by_cases h : j < z - 1
  · rw [if_pos h]
  · rw [if_neg h]
    obtain rfl : j = z - 1 := by omega
    rw [show z - 1 + 1 + 1 = z + 1 by omega, pth_past _ _ hz]
theorem nS_le (z n k j : Nat) (hn : n ≤ 39) : 0 ≤ nS z n k j ∧ nS z n k j ≤ 4398046511104 := by
  unfold nS
  have h1 := pth_le z n j (by omega)
  have h2 := pth_le z n (j + 2) (by omega)
  split <;> split <;> omega
theorem mS_le (z n k j : Nat) (hn : n ≤ 39) : 0 ≤ mS z n k j ∧ mS z n k j ≤ 4398046511104 := by
  unfold mS
  have h1 := pth_le z n j (by omega)
  have h2 := pth_le z n (j + 2) (by omega)
  split <;> split <;> omega
end Go.Proofs.Ytmcffhafonemeaa
