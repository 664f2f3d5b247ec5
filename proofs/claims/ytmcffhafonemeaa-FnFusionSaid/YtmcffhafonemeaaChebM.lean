/- Chebyshev numbers, as plain numbers: their range, their first zero, their products, inverses modulo a prime. -/
import Derived.Test.YtmcffhafonemeaaPrime
namespace Go.Proofs.Ytmcffhafonemeaa
/-- The two last Chebyshev numbers. -/
def ch (p c : Int) : Nat → Int × Int
  | 0 => (0, 1)
  | k + 1 => ((ch p c k).2, (c * (ch p c k).2 - (ch p c k).1) % p)
def cheb (p c : Int) (k : Nat) : Int := (ch p c k).2
theorem cheb_zero (p c : Int) : cheb p c 0 = 1 := rfl
theorem cheb_one (p c : Int) (h0 : 0 ≤ c) (h1 : c < p) : cheb p c 1 = c := by
  show (c * 1 - 0) % p = c
  rw [Int.mul_one, Int.sub_zero]; exact Int.emod_eq_of_lt h0 h1
theorem cheb_next (p c : Int) (k : Nat) : cheb p c (k + 2) = (c * cheb p c (k + 1) - cheb p c k) % p := rfl
theorem cheb_range (p c : Int) (hp : 2 ≤ p) (k : Nat) : 0 ≤ cheb p c k ∧ cheb p c k < p := by
  cases k with
  | zero => exact ⟨by rw [cheb_zero]; omega, by rw [cheb_zero]; omega⟩
  | succ k => exact ⟨Int.emod_nonneg _ (by omega), Int.emod_lt_of_pos _ (by omega)⟩
theorem lmod (p x : Int) (hp : 0 < p) : (x.tmod p + p).tmod p = x % p := by
  have h1 : x.tmod p = x - p * x.tdiv p := Int.tmod_def x p
  have h2 : -p < x.tmod p := by
    have := Int.lt_tmod_of_pos x hp
    omega
  rw [Int.tmod_eq_emod_of_nonneg (by omega), h1, Int.add_emod_right, Int.sub_mul_emod_self_left]
/-- The first zero from k on. -/
def zf (p c : Int) : Nat → Nat → Nat
  | 0, k => k
  | f + 1, k => if cheb p c k = 0 then k else zf p c f (k + 1)
theorem zf_le (p c : Int) : ∀ f k, zf p c f k ≤ k + f := by
  intro f
  induction f with
  | zero => intro k; exact Nat.le_refl _
  | succ f ih => intro k; unfold zf; split; omega; have := ih (k + 1); omega
theorem zf_ge (p c : Int) : ∀ f k, k ≤ zf p c f k := by
  intro f
  induction f with
  | zero => intro k; exact Nat.le_refl _
  | succ f ih => intro k; unfold zf; split; omega; have := ih (k + 1); omega
theorem zf_before (p c : Int) : ∀ f k j, k ≤ j → j < zf p c f k → cheb p c j ≠ 0 := by
  intro f
  induction f with
  | zero => intro k j h1 h2; unfold zf at h2; omega
  | succ f ih =>
    intro k j h1 h2
    unfold zf at h2
    split at h2
    · omega
    · by_cases e : j = k
      · subst e; assumption
      · exact ih (k + 1) j (by omega) h2
theorem zf_zero (p c : Int) : ∀ f k, (∃ j, k ≤ j ∧ j < k + f ∧ cheb p c j = 0) → cheb p c (zf p c f k) = 0 := by
  intro f
  induction f with
  | zero => rintro k ⟨j, h1, h2, _⟩; omega
  | succ f ih =>
    rintro k ⟨j, h1, h2, h3⟩
    unfold zf
    split
    · assumption
    · refine ih (k + 1) ⟨j, ?_, by omega, h3⟩
      by_cases e : j = k
      · subst e; contradiction
      · omega
/-- The first zero. -/
def fz (p c : Int) : Nat := zf p c 97 1
/-- Whether a zero is met, in natural numbers: a is the number before b. -/
def meets (p c : Nat) : Nat → Nat → Nat → Bool
  | 0, _, _ => false
  | f + 1, a, b => b == 0 || meets p c f b ((c * b + (p - a)) % p)
theorem meets_cheb (p c : Nat) (hp : 2 ≤ p) : ∀ (f k a b : Nat), ((a : Int) = (ch p c k).1 ∧ (b : Int) = (ch p c k).2 ∧ a < p) → meets p c f a b = true → ∃ j, k ≤ j ∧ j < k + f ∧ cheb p c j = 0 := by
  intro f
  induction f with
  | zero => intro k a b _ h; simp [meets] at h
  | succ f ih =>
    intro k a b ⟨ha, hb, hap⟩ h
    unfold meets at h
    by_cases e : b = 0
    · exact ⟨k, Nat.le_refl _, by omega, by show (ch p c k).2 = 0; rw [← hb, e]; rfl⟩
    · rw [show (b == 0) = false by simpa using e, Bool.false_or] at h
      have hr := cheb_range p c (by omega) k
      have hbp : b < p := by have : (b : Int) < p := by rw [hb]; exact hr.2
                             omega
      have key : ((((c * b + (p - a)) % p : Nat)) : Int) = (ch p c (k + 1)).2 := by
        show _ = ((c : Int) * (ch p c k).2 - (ch p c k).1) % (p : Int)
        rw [← ha, ← hb, Int.natCast_emod, Int.natCast_add, Int.natCast_mul, Int.ofNat_sub (Nat.le_of_lt hap)]
        rw [show (c : Int) * b + (p - a) = (c * b - a) + p by omega, Int.add_emod_right]
      obtain ⟨j, h1, h2, h3⟩ := ih (k + 1) b _ ⟨by show (b : Int) = (ch p c k).2; exact hb, key, hbp⟩ h
      exact ⟨j, by omega, by omega, h3⟩
def primeN (p : Nat) : Bool := (List.range p).all fun j => decide (j < 2) || (p % j != 0)
theorem primeB_nat (p : Nat) (h : primeB p = true) : 2 ≤ p ∧ p ≤ 97 ∧ primeN p = true := by
  unfold primeB at h
  rw [decide_eq_true_iff] at h
  obtain ⟨h1, h2, h3⟩ := h
  refine ⟨by omega, by omega, ?_⟩
  unfold primeN
  rw [List.all_eq_true]
  intro j hj
  rw [List.mem_range] at hj
  by_cases e : j < 2
  · simp [e]
  · have := h3 j (by simpa using hj) (by omega)
    rw [show (p : Int).tmod (j : Int) = ((p % j : Nat) : Int) from (Int.ofNat_tmod p j).symm] at this
    simp only [Bool.or_eq_true, decide_eq_true_eq, bne_iff_ne, ne_eq]
    right
    intro e0; rw [e0] at this; exact this rfl
def zerosB : Bool := (List.range 98).all fun p => !primeN p || (List.range p).all fun c => decide (p < 2) || meets p c 97 1 c
set_option maxRecDepth 1000000 in
theorem zerosB_true : zerosB = true := by decide +kernel
/-- Powers by a prime. -/
def pwN (p k : Nat) : Nat → Nat
  | 0 => 1
  | e + 1 => pwN p k e * k % p
def inversB : Bool := (List.range 98).all fun p => !primeN p || (List.range p).all fun c => decide (p < 2) || c == 0 || (c * pwN p c (p - 2)) % p == 1
set_option maxRecDepth 1000000 in
theorem inversB_true : inversB = true := by decide +kernel
theorem has_zero (p c : Int) (hp : primeB p = true) (h0 : 0 ≤ c) (h1 : c < p) : cheb p c (fz p c) = 0 ∧ 1 ≤ fz p c ∧ fz p c ≤ 97 := by
  obtain ⟨P, rfl⟩ : ∃ P : Nat, p = P := ⟨p.toNat, by unfold primeB at hp; rw [decide_eq_true_iff] at hp; omega⟩
  obtain ⟨C, rfl⟩ : ∃ C : Nat, c = C := ⟨c.toNat, by omega⟩
  obtain ⟨p2, p97, hP⟩ := primeB_nat P hp
  have hz := zerosB_true
  unfold zerosB at hz
  rw [List.all_eq_true] at hz
  have := hz P (List.mem_range.2 (by omega))
  rw [hP, Bool.not_true, Bool.false_or, List.all_eq_true] at this
  have := this C (List.mem_range.2 (by omega))
  rw [show decide (P < 2) = false by simpa using p2, Bool.false_or] at this
  obtain ⟨j, j1, j2, j3⟩ := meets_cheb P C p2 97 1 1 C ⟨rfl, by show _ = ((C : Int) * 1 - 0) % (P : Int); rw [Int.mul_one, Int.sub_zero]; exact (Int.emod_eq_of_lt (by omega) h1).symm, by omega⟩ this
  have hz0 := zf_zero P C 97 1 ⟨j, j1, j2, j3⟩
  have hge := zf_ge (P : Int) C 97 1
  have hle := zf_le (P : Int) C 97 1
  refine ⟨hz0, hge, ?_⟩
  unfold fz
  refine Decidable.byContradiction fun hn => ?_
  exact zf_before P C 97 1 j j1 (by omega) j3
theorem fz_before (p c : Int) (j : Nat) (h1 : 1 ≤ j) (h2 : j < fz p c) : cheb p c j ≠ 0 := zf_before p c 97 1 j h1 h2
end Go.Proofs.Ytmcffhafonemeaa
