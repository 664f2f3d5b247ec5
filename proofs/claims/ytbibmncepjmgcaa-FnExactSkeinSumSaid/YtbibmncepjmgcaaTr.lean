/- Traces of elements: program and model. -/
import Derived.Test.YtbibmncepjmgcaaElA
import Derived.Test.YtbibmncepjmgcaaClo
import Derived.Test.YtbibmncepjmgcaaKd
namespace Go.Proofs.Ytbibmncepjmgcaa
open Go.RowKit Go.BigFrame
set_option linter.unusedVariables false
/-- The loops of the closure of a term's diagram. -/
def lpT (t : Tm) : Nat := (cloL t.1 t.2.1 (2 * t.1).toNat).2.toNat
def smT (p c : Int) (t : Tm) : Int := t.2.2 * pw p c (lpT t)
/-- The sum of the first k terms, and its remainder as the model finds it. -/
def trI (p c : Int) (ts : List Tm) : Nat → Int
  | 0 => 0
  | k + 1 => trI p c ts k + smT p c (ts.getD k zT)
def trS (p c : Int) (ts : List Tm) : Nat → Int
  | 0 => 0
  | k + 1 => (trS p c ts k + smT p c (ts.getD k zT)) % p
theorem tr_same (p c : Int) (ts : List Tm) : ∀ k, trI p c ts k % p = trS p c ts k % p
  | 0 => rfl
  | k + 1 => by
    rw [trI, trS, Int.emod_emod, Int.add_emod, tr_same p c ts k, ← Int.add_emod]
theorem trS_rng {p c : Int} (hp : 2 ≤ p) (ts : List Tm) : ∀ k, 0 ≤ trS p c ts k ∧ trS p c ts k < p
  | 0 => ⟨Int.le_refl _, by show (0 : Int) < p; omega⟩
  | k + 1 => ⟨Int.emod_nonneg _ (by omega), Int.emod_lt_of_pos _ (by omega)⟩
theorem smT_rng {p c : Int} (hp : 2 ≤ p) (hp2 : p ≤ 97) (t : Tm) (h1 : 1 ≤ t.2.2) (h2 : t.2.2 < p) : 0 ≤ smT p c t ∧ smT p c t ≤ 9409 := by
  have r := pw_range p c hp (lpT t)
  exact bnd_mul p _ _ 0 hp hp2 (by omega) h2 r.1 r.2
theorem trI_rng {p c : Int} (hp : 2 ≤ p) (hp2 : p ≤ 97) (ts : List Tm) (h : ∀ j, j < ts.length → 1 ≤ (ts.getD j zT).2.2 ∧ (ts.getD j zT).2.2 < p) : ∀ k : Nat, k ≤ ts.length → 0 ≤ trI p c ts k ∧ trI p c ts k ≤ 9409 * (k : Int)
  | 0, _ => ⟨Int.le_refl _, Int.le_refl _⟩
  | k + 1, hk => by
    have a : 0 ≤ trI p c ts k ∧ trI p c ts k ≤ 9409 * (k : Int) := trI_rng hp hp2 ts h k (by omega)
    have b := smT_rng (c := c) hp hp2 (ts.getD k zT) (h k (by omega)).1 (h k (by omega)).2
    rw [trI]; omega
theorem elB_spec {p c n : Int} {ts : List Tm} (h : elB p c n ts = true) : primeB p = true ∧ 2 ≤ p ∧ p ≤ 97 ∧ 0 ≤ c ∧ c < p ∧ 1 ≤ n ∧ n ≤ 8 ∧ ts.length ≤ 140 ∧ elT n p ts ts.length = true := by
  unfold elB at h
  rw [Bool.and_eq_true, Bool.and_eq_true, Bool.and_eq_true, Bool.and_eq_true, decide_eq_true_iff, decide_eq_true_iff, decide_eq_true_iff] at h
  obtain ⟨⟨h1, h2⟩, h3, h4, h5⟩ := h
  have := primeB_two h1
  exact ⟨h1, this.1, this.2, h2.1, h2.2, h3.1, h3.2, h4, h5⟩
theorem elT_term {n p : Int} {ts : List Tm} (h : elT n p ts ts.length = true) (j : Nat) (hj : j < ts.length) : (ts.getD j zT).1 = n ∧ isD n (ts.getD j zT).2.1 = true ∧ 1 ≤ (ts.getD j zT).2.2 ∧ (ts.getD j zT).2.2 < p := by
  have := elT_ok h j hj
  rw [tOk, Bool.and_eq_true, Bool.and_eq_true, decide_eq_true_iff, decide_eq_true_iff] at this
  exact ⟨this.1.1, this.1.1 ▸ this.1.2, this.2⟩
set_option maxRecDepth 100000 in
theorem powS_any (p k : Int) (n : Nat) (w : World) (hp : 2 ≤ p) (hp2 : p ≤ 97) (hk0 : 0 ≤ k) (hk1 : k < p) (hn : n ≤ 1000) :
    Calls Try.prog 57 #[.int .i64 p, .int .i64 k, .int .i64 n] w fun e w' => e = .returned (.int .i64 (pw p k n)) ∧ w = w' := by
  have e0 : (p == 0) = false := by simp; omega
  have e1 : Int.tmod 1 p = 1 := by rw [Int.tmod_eq_emod_of_nonneg (by omega)]; exact Int.emod_eq_of_lt (by omega) (by omega)
  have hr := Lib.hid (pw_range p k hp)
  go_enter Try.func57, Try.ntmps57
  go_wp2
  go_loopw [2, 7] (fun i v wr => ∃ j : Nat, j ≤ n ∧ i = .int .i64 ((n - j : Nat) : Int) ∧ v = .int .i64 (pw p k j) ∧ wr = w) (fun i _ _ => (intOf i).toNat)
  case atStart => exact ⟨0, by omega, rfl, rfl, rfl⟩
  case round =>
    obtain ⟨j, hj, rfl, rfl, rfl⟩ := hrel
    by_cases hlt : j < n
    · obtain ⟨m, hm⟩ : ∃ m, n - j = m + 1 := ⟨n - j - 1, by omega⟩
      rw [hm]
      have r := hr.out j
      have m1 := bnd_mul p (pw p k j) k 0 hp hp2 r.1 r.2 hk0 hk1
      have hx : Hid (pw p k (j + 1) = pw p k j * k % p) := Lib.hid rfl
      have hm' := Lib.hid (show m = n - (j + 1) by omega)
      generalize pw p k j = x at *
      go_wp2
      go_roundw
      case rel => exact ⟨j + 1, by omega, by rw [← hm'.out] <;> simp, by rw [hx.out], trivial⟩
      case measure => simp [intOf]
    · obtain rfl : j = n := by omega
      rw [Nat.sub_self]
      go_wp2
      go_ret
      exact ⟨rfl, rfl⟩
end Go.Proofs.Ytbibmncepjmgcaa
