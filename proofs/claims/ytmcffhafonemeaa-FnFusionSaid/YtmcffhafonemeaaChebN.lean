/- Products of Chebyshev numbers, powers and inverses modulo a prime; theta numbers. -/
import Derived.Test.YtmcffhafonemeaaChebM
namespace Go.Proofs.Ytmcffhafonemeaa
theorem mul_emod_l (p a b : Int) : a % p * b % p = a * b % p := by rw [Int.mul_emod, Int.emod_emod, ← Int.mul_emod]
theorem mul_emod_r (p a b : Int) : a * (b % p) % p = a * b % p := by rw [Int.mul_emod, Int.emod_emod, ← Int.mul_emod]
/-- The product of the first k Chebyshev numbers. -/
def gpr (p c : Int) : Nat → Int
  | 0 => 1
  | k + 1 => gpr p c k * cheb p c (k + 1) % p
theorem gpr_range (p c : Int) (hp : 2 ≤ p) (k : Nat) : 0 ≤ gpr p c k ∧ gpr p c k < p := by
  cases k with
  | zero => show (0 : Int) ≤ 1 ∧ (1 : Int) < p; omega
  | succ k => exact ⟨Int.emod_nonneg _ (by omega), Int.emod_lt_of_pos _ (by omega)⟩
theorem gpr_step (p c : Int) (k : Nat) (o K : Int) (h : gpr p c (k + 1) * o % p = K) : gpr p c k * (o * cheb p c (k + 1) % p) % p = K := by
  rw [mul_emod_r, ← h, gpr, mul_emod_l]
  congr 1
  rw [Int.mul_assoc, Int.mul_comm o]
theorem gpr_end (p c : Int) (K : Nat) (o : Int) (ho : 0 ≤ o ∧ o < p) (h : gpr p c 0 * o % p = gpr p c K) : o = gpr p c K := by
  rw [← h]
  show o = 1 * o % p
  rw [Int.one_mul]; exact (Int.emod_eq_of_lt ho.1 ho.2).symm
/-- A power modulo p. -/
def pw (p k : Int) : Nat → Int
  | 0 => 1
  | e + 1 => pw p k e * k % p
theorem pw_nat (p k e : Nat) : ((pwN p k e : Nat) : Int) = pw p k e := by
  induction e with
  | zero => rfl
  | succ e ih => simp only [pwN, pw, Int.natCast_emod, Int.natCast_mul, ih]
theorem pw_range (p k : Int) (hp : 2 ≤ p) (e : Nat) : 0 ≤ pw p k e ∧ pw p k e < p := by
  cases e with
  | zero => show (0 : Int) ≤ 1 ∧ (1 : Int) < p; omega
  | succ e => exact ⟨Int.emod_nonneg _ (by omega), Int.emod_lt_of_pos _ (by omega)⟩
/-- The inverse modulo p. -/
def rcp (p x : Int) : Int := pw p x (p - 2).toNat
theorem rcp_mul (p x : Int) (hp : primeB p = true) (h0 : 1 ≤ x) (h1 : x < p) : x * rcp p x % p = 1 := by
  obtain ⟨P, rfl⟩ : ∃ P : Nat, p = P := ⟨p.toNat, by unfold primeB at hp; rw [decide_eq_true_iff] at hp; omega⟩
  obtain ⟨X, rfl⟩ : ∃ X : Nat, x = X := ⟨x.toNat, by omega⟩
  obtain ⟨p2, p97, hP⟩ := primeB_nat P hp
  have hz := inversB_true
  unfold inversB at hz
  rw [List.all_eq_true] at hz
  have := hz P (List.mem_range.2 (by omega))
  rw [hP, Bool.not_true, Bool.false_or, List.all_eq_true] at this
  have := this X (List.mem_range.2 (by omega))
  rw [show decide (P < 2) = false by simpa using p2, show (X == 0) = false by simp; omega, Bool.false_or, Bool.false_or] at this
  have h := eq_of_beq this
  unfold rcp
  rw [show ((P : Int) - 2).toNat = P - 2 by omega, ← pw_nat]
  have h2 : (((X * pwN P X (P - 2)) % P : Nat) : Int) = 1 := by rw [h]; rfl
  rw [Int.natCast_emod, Int.natCast_mul] at h2
  exact h2
theorem rcp_one (p x y : Int) (hp : primeB p = true) (h0 : 1 ≤ x) (h1 : x < p) (hy0 : 0 ≤ y) (hy1 : y < p) (h : y * x % p = 1) : y = rcp p x := by
  have hr := rcp_mul p x hp h0 h1
  have h2 := pw_range p x (by unfold primeB at hp; rw [decide_eq_true_iff] at hp; omega) (p - 2).toNat
  have e1 : y * x * rcp p x % p = rcp p x := by
    rw [← mul_emod_l, h, Int.one_mul]; exact Int.emod_eq_of_lt h2.1 h2.2
  have e2 : y * x * rcp p x % p = y := by
    rw [Int.mul_assoc, ← mul_emod_r, hr, Int.mul_one]; exact Int.emod_eq_of_lt hy0 hy1
  exact e2.symm.trans e1
theorem rcp_pos (p x : Int) (hp : primeB p = true) (h0 : 1 ≤ x) (h1 : x < p) : 1 ≤ rcp p x ∧ rcp p x < p := by
  have hr := rcp_mul p x hp h0 h1
  have h2 := pw_range p x (by unfold primeB at hp; rw [decide_eq_true_iff] at hp; omega) (p - 2).toNat
  refine ⟨?_, h2.2⟩
  have : rcp p x ≠ 0 := by
    intro e; rw [e, Int.mul_zero, Int.zero_emod] at hr; omega
  have h3 : 0 ≤ rcp p x := h2.1
  omega
/-- No divisors of zero. -/
theorem mul_ne (p a b : Int) (hp : primeB p = true) (a0 : 1 ≤ a) (a1 : a < p) (b0 : 1 ≤ b) (b1 : b < p) : 1 ≤ a * b % p := by
  have p2 : 2 ≤ p := by unfold primeB at hp; rw [decide_eq_true_iff] at hp; omega
  have h0 : 0 ≤ a * b % p := Int.emod_nonneg _ (by omega)
  refine Decidable.byContradiction fun hn => ?_
  have e : a * b % p = 0 := by omega
  have hr := rcp_mul p a hp a0 a1
  have : b = 0 := by
    have e2 : rcp p a * (a * b) % p = b := by
      rw [← Int.mul_assoc, Int.mul_comm (rcp p a), ← mul_emod_l, hr, Int.one_mul]
      exact Int.emod_eq_of_lt (by omega) b1
    rw [← e2, ← mul_emod_r, e, Int.mul_zero, Int.zero_emod]
  omega
theorem gpr_pos (p c : Int) (hp : primeB p = true) (k : Nat) (h : k < fz p c) : 1 ≤ gpr p c k ∧ gpr p c k < p := by
  have p2 : 2 ≤ p := by unfold primeB at hp; rw [decide_eq_true_iff] at hp; omega
  induction k with
  | zero => show (1 : Int) ≤ 1 ∧ (1 : Int) < p; omega
  | succ k ih =>
    have := ih (by omega)
    have hc := cheb_range p c p2 (k + 1)
    have hn := fz_before p c (k + 1) (by omega) h
    exact ⟨mul_ne p _ _ hp this.1 this.2 (by omega) hc.2, Int.emod_lt_of_pos _ (by omega)⟩
/-- Divided one after the other, or by the product. -/
theorem theta_eq (p t a b c : Int) (hp : primeB p = true) (a0 : 1 ≤ a) (a1 : a < p) (b0 : 1 ≤ b) (b1 : b < p) (c0 : 1 ≤ c) (c1 : c < p) :
    t * rcp p a % p * rcp p b % p * rcp p c % p = t * rcp p (a * b % p * c % p) % p := by
  have p2 : 2 ≤ p := by unfold primeB at hp; rw [decide_eq_true_iff] at hp; omega
  have hab := mul_ne p a b hp a0 a1 b0 b1
  have hab2 : a * b % p < p := Int.emod_lt_of_pos _ (by omega)
  have habc := mul_ne p _ c hp hab hab2 c0 c1
  have habc2 : a * b % p * c % p < p := Int.emod_lt_of_pos _ (by omega)
  have ra := rcp_mul p a hp a0 a1
  have rb := rcp_mul p b hp b0 b1
  have rc := rcp_mul p c hp c0 c1
  have key : (rcp p a * rcp p b * rcp p c) % p = rcp p (a * b % p * c % p) := by
    refine rcp_one p _ _ hp habc habc2 (Int.emod_nonneg _ (by omega)) (Int.emod_lt_of_pos _ (by omega)) ?_
    rw [mul_emod_l, mul_emod_r]
    rw [← Int.mul_assoc, ← mul_emod_l, mul_emod_r, mul_emod_l]
    have : rcp p a * rcp p b * rcp p c * (a * b) * c = (a * rcp p a) * ((b * rcp p b) * (c * rcp p c)) := by
      simp only [Int.mul_assoc, Int.mul_comm, Int.mul_left_comm]
    rw [this, ← mul_emod_l, ra, Int.one_mul, ← mul_emod_l, rb, Int.one_mul, rc]
  rw [← key, mul_emod_r]
  rw [mul_emod_l p (t * rcp p a) (rcp p b), mul_emod_l]
  congr 1
  simp only [Int.mul_assoc]
end Go.Proofs.Ytmcffhafonemeaa
