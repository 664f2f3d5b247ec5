/- Chebyshev numbers, as plain numbers: their range, their first zero, their products, inverses modulo a prime. Products of Chebyshev numbers, powers and inverses modulo a prime; theta numbers. Arithmetic modulo a prime: remainders, powers, inverses, of the program and of the model. Sums as sorted lists of keys with factors, over any order: plain mathematics. Sums of terms: the order of diagrams by their texts. -/
import Derived.Test.YtbibmncepjmgcaaKc
import Derived.Test.YtbibmncepjmgcaaKa
import Derived.IntWalk
import Derived.Test.YtbibmncepjmgcaaElI
import Derived.Test.YtbibmncepjmgcaaKb
namespace Go.Proofs.Ytbibmncepjmgcaa
/-- The two last Chebyshev numbers. -/
def ch (p c : Int) : Nat → Int × Int
  | 0 => (0, 1)
  | k + 1 => ((ch p c k).2, (c * (ch p c k).2 - (ch p c k).1) % p)
def cheb (p c : Int) (k : Nat) : Int := (ch p c k).2
theorem cheb_zero (p c : Int) : cheb p c 0 = 1 := rfl
theorem cheb_one (p c : Int) (h0 : 0 ≤ c) (h1 : c < p) : cheb p c 1 = c := by
  show (c * 1 - 0) % p = c
  rw [Int.mul_one, Int.sub_zero]; exact Int.emod_eq_of_lt h0 h1
theorem cheb_next (p c : Int) (k : Nat) : cheb p c (k + 2) = (c * cheb p c (k + 1) - cheb p c k) % p := rfl
theorem cheb_range (p c : Int) (hp : 2 ≤ p) (k : Nat) : 0 ≤ cheb p c k ∧ cheb p c k < p := by
  cases k with
  | zero => exact ⟨by rw [cheb_zero]; omega, by rw [cheb_zero]; omega⟩
  | succ k => exact ⟨Int.emod_nonneg _ (by omega), Int.emod_lt_of_pos _ (by omega)⟩
theorem lmod (p x : Int) (hp : 0 < p) : (x.tmod p + p).tmod p = x % p := by
  have h1 : x.tmod p = x - p * x.tdiv p := Int.tmod_def x p
  have h2 : -p < x.tmod p := by
    have := Int.lt_tmod_of_pos x hp
    omega
  rw [Int.tmod_eq_emod_of_nonneg (by omega), h1, Int.add_emod_right, Int.sub_mul_emod_self_left]
/-- The first zero from k on. -/
def zf (p c : Int) : Nat → Nat → Nat
  | 0, k => k
  | f + 1, k => if cheb p c k = 0 then k else zf p c f (k + 1)
theorem zf_le (p c : Int) : ∀ f k, zf p c f k ≤ k + f := by
  intro f
  induction f with
  | zero => intro k; exact Nat.le_refl _
  | succ f ih => intro k; unfold zf; split; omega; have := ih (k + 1); omega
theorem zf_ge (p c : Int) : ∀ f k, k ≤ zf p c f k := by
  intro f
  induction f with
  | zero => intro k; exact Nat.le_refl _
  | succ f ih => intro k; unfold zf; split; omega; have := ih (k + 1); omega
theorem zf_before (p c : Int) : ∀ f k j, k ≤ j → j < zf p c f k → cheb p c j ≠ 0 := by
  intro f
  induction f with
  | zero => intro k j h1 h2; unfold zf at h2; omega
  | succ f ih =>
    intro k j h1 h2
    unfold zf at h2
    split at h2
    · omega
    · by_cases e : j = k
      · subst e; assumption
      · exact ih (k + 1) j (by omega) h2
theorem zf_zero (p c : Int) : ∀ f k, (∃ j, k ≤ j ∧ j < k + f ∧ cheb p c j = 0) → cheb p c (zf p c f k) = 0 := by
  intro f
  induction f with
  | zero => rintro k ⟨j, h1, h2, _⟩; omega
  | succ f ih =>
    rintro k ⟨j, h1, h2, h3⟩
    unfold zf
    split
    · assumption
    · refine ih (k + 1) ⟨j, ?_, by omega, h3⟩
      by_cases e : j = k
      · subst e; contradiction
      · omega
/-- The first zero. -/
def fz (p c : Int) : Nat := zf p c 97 1
/-- Whether a zero is met, in natural numbers: a is the number before b. -/
def meets (p c : Nat) : Nat → Nat → Nat → Bool
  | 0, _, _ => false
  | f + 1, a, b => b == 0 || meets p c f b ((c * b + (p - a)) % p)
theorem meets_cheb (p c : Nat) (hp : 2 ≤ p) : ∀ (f k a b : Nat), ((a : Int) = (ch p c k).1 ∧ (b : Int) = (ch p c k).2 ∧ a < p) → meets p c f a b = true → ∃ j, k ≤ j ∧ j < k + f ∧ cheb p c j = 0 := by
  intro f
  induction f with
  | zero => intro k a b _ h; simp [meets] at h
  | succ f ih =>
    intro k a b ⟨ha, hb, hap⟩ h
    unfold meets at h
    by_cases e : b = 0
    · exact ⟨k, Nat.le_refl _, by omega, by show (ch p c k).2 = 0; rw [← hb, e]; rfl⟩
    · rw [show (b == 0) = false by simpa using e, Bool.false_or] at h
      have hr := cheb_range p c (by omega) k
      have hbp : b < p := by have : (b : Int) < p := by rw [hb]; exact hr.2
                             omega
      have key : ((((c * b + (p - a)) % p : Nat)) : Int) = (ch p c (k + 1)).2 := by
        show _ = ((c : Int) * (ch p c k).2 - (ch p c k).1) % (p : Int)
        rw [← ha, ← hb, Int.natCast_emod, Int.natCast_add, Int.natCast_mul, Int.ofNat_sub (Nat.le_of_lt hap)]
        rw [show (c : Int) * b + (p - a) = (c * b - a) + p by omega, Int.add_emod_right]
      obtain ⟨j, h1, h2, h3⟩ := ih (k + 1) b _ ⟨by show (b : Int) = (ch p c k).2; exact hb, key, hbp⟩ h
      exact ⟨j, by omega, by omega, h3⟩
def primeN (p : Nat) : Bool := (List.range p).all fun j => decide (j < 2) || (p % j != 0)
theorem primeB_nat (p : Nat) (h : primeB p = true) : 2 ≤ p ∧ p ≤ 97 ∧ primeN p = true := by
  unfold primeB at h
  rw [decide_eq_true_iff] at h
  obtain ⟨h1, h2, h3⟩ := h
  refine ⟨by omega, by omega, ?_⟩
  unfold primeN
  rw [List.all_eq_true]
  intro j hj
  rw [List.mem_range] at hj
  by_cases e : j < 2
  · simp [e]
  · have := h3 j (by simpa using hj) (by omega)
    rw [show (p : Int).tmod (j : Int) = ((p % j : Nat) : Int) from (Int.ofNat_tmod p j).symm] at this
    simp only [Bool.or_eq_true, decide_eq_true_eq, bne_iff_ne, ne_eq]
    right
    intro e0; rw [e0] at this; exact this rfl
def zerosB : Bool := (List.range 98).all fun p => !primeN p || (List.range p).all fun c => decide (p < 2) || meets p c 97 1 c
set_option maxRecDepth 1000000 in
theorem zerosB_true : zerosB = true := by decide +kernel
/-- Powers by a prime. -/
def pwN (p k : Nat) : Nat → Nat
  | 0 => 1
  | e + 1 => pwN p k e * k % p
def inversB : Bool := (List.range 98).all fun p => !primeN p || (List.range p).all fun c => decide (p < 2) || c == 0 || (c * pwN p c (p - 2)) % p == 1
set_option maxRecDepth 1000000 in
theorem inversB_true : inversB = true := by decide +kernel
theorem has_zero (p c : Int) (hp : primeB p = true) (h0 : 0 ≤ c) (h1 : c < p) : cheb p c (fz p c) = 0 ∧ 1 ≤ fz p c ∧ fz p c ≤ 97 := by
  obtain ⟨P, rfl⟩ : ∃ P : Nat, p = P := ⟨p.toNat, by unfold primeB at hp; rw [decide_eq_true_iff] at hp; omega⟩
  obtain ⟨C, rfl⟩ : ∃ C : Nat, c = C := ⟨c.toNat, by omega⟩
  obtain ⟨p2, p97, hP⟩ := primeB_nat P hp
  have hz := zerosB_true
  unfold zerosB at hz
  rw [List.all_eq_true] at hz
  have := hz P (List.mem_range.2 (by omega))
  rw [hP, Bool.not_true, Bool.false_or, List.all_eq_true] at this
  have := this C (List.mem_range.2 (by omega))
  rw [show decide (P < 2) = false by simpa using p2, Bool.false_or] at this
  obtain ⟨j, j1, j2, j3⟩ := meets_cheb P C p2 97 1 1 C ⟨rfl, by show _ = ((C : Int) * 1 - 0) % (P : Int); rw [Int.mul_one, Int.sub_zero]; exact (Int.emod_eq_of_lt (by omega) h1).symm, by omega⟩ this
  have hz0 := zf_zero P C 97 1 ⟨j, j1, j2, j3⟩
  have hge := zf_ge (P : Int) C 97 1
  have hle := zf_le (P : Int) C 97 1
  refine ⟨hz0, hge, ?_⟩
  unfold fz
  refine Decidable.byContradiction fun hn => ?_
  exact zf_before P C 97 1 j j1 (by omega) j3
theorem fz_before (p c : Int) (j : Nat) (h1 : 1 ≤ j) (h2 : j < fz p c) : cheb p c j ≠ 0 := zf_before p c 97 1 j h1 h2
end Go.Proofs.Ytbibmncepjmgcaa
namespace Go.Proofs.Ytbibmncepjmgcaa
theorem mul_emod_l (p a b : Int) : a % p * b % p = a * b % p := by rw [Int.mul_emod, Int.emod_emod, ← Int.mul_emod]
theorem mul_emod_r (p a b : Int) : a * (b % p) % p = a * b % p := by rw [Int.mul_emod, Int.emod_emod, ← Int.mul_emod]
/-- The product of the first k Chebyshev numbers. -/
def gpr (p c : Int) : Nat → Int
  | 0 => 1
  | k + 1 => gpr p c k * cheb p c (k + 1) % p
theorem gpr_range (p c : Int) (hp : 2 ≤ p) (k : Nat) : 0 ≤ gpr p c k ∧ gpr p c k < p := by
  cases k with
  | zero => show (0 : Int) ≤ 1 ∧ (1 : Int) < p; omega
  | succ k => exact ⟨Int.emod_nonneg _ (by omega), Int.emod_lt_of_pos _ (by omega)⟩
theorem gpr_step (p c : Int) (k : Nat) (o K : Int) (h : gpr p c (k + 1) * o % p = K) : gpr p c k * (o * cheb p c (k + 1) % p) % p = K := by
  rw [mul_emod_r, ← h, gpr, mul_emod_l]
  congr 1
  rw [Int.mul_assoc, Int.mul_comm o]
theorem gpr_end (p c : Int) (K : Nat) (o : Int) (ho : 0 ≤ o ∧ o < p) (h : gpr p c 0 * o % p = gpr p c K) : o = gpr p c K := by
  rw [← h]
  show o = 1 * o % p
  rw [Int.one_mul]; exact (Int.emod_eq_of_lt ho.1 ho.2).symm
/-- A power modulo p. -/
def pw (p k : Int) : Nat → Int
  | 0 => 1
  | e + 1 => pw p k e * k % p
theorem pw_nat (p k e : Nat) : ((pwN p k e : Nat) : Int) = pw p k e := by
  induction e with
  | zero => rfl
  | succ e ih => simp only [pwN, pw, Int.natCast_emod, Int.natCast_mul, ih]
theorem pw_range (p k : Int) (hp : 2 ≤ p) (e : Nat) : 0 ≤ pw p k e ∧ pw p k e < p := by
  cases e with
  | zero => show (0 : Int) ≤ 1 ∧ (1 : Int) < p; omega
  | succ e => exact ⟨Int.emod_nonneg _ (by omega), Int.emod_lt_of_pos _ (by omega)⟩
/-- The inverse modulo p. -/
def rcp (p x : Int) : Int := pw p x (p - 2).toNat
theorem rcp_mul (p x : Int) (hp : primeB p = true) (h0 : 1 ≤ x) (h1 : x < p) : x * rcp p x % p = 1 := by
  obtain ⟨P, rfl⟩ : ∃ P : Nat, p = P := ⟨p.toNat, by unfold primeB at hp; rw [decide_eq_true_iff] at hp; omega⟩
  obtain ⟨X, rfl⟩ : ∃ X : Nat, x = X := ⟨x.toNat, by omega⟩
  obtain ⟨p2, p97, hP⟩ := primeB_nat P hp
  have hz := inversB_true
  unfold inversB at hz
  rw [List.all_eq_true] at hz
  have := hz P (List.mem_range.2 (by omega))
  rw [hP, Bool.not_true, Bool.false_or, List.all_eq_true] at this
  have := this X (List.mem_range.2 (by omega))
  rw [show decide (P < 2) = false by simpa using p2, show (X == 0) = false by simp; omega, Bool.false_or, Bool.false_or] at this
  have h := eq_of_beq this
  unfold rcp
  rw [show ((P : Int) - 2).toNat = P - 2 by omega, ← pw_nat]
  have h2 : (((X * pwN P X (P - 2)) % P : Nat) : Int) = 1 := by rw [h]; rfl
  rw [Int.natCast_emod, Int.natCast_mul] at h2
  exact h2
theorem rcp_one (p x y : Int) (hp : primeB p = true) (h0 : 1 ≤ x) (h1 : x < p) (hy0 : 0 ≤ y) (hy1 : y < p) (h : y * x % p = 1) : y = rcp p x := by
  have hr := rcp_mul p x hp h0 h1
  have h2 := pw_range p x (by unfold primeB at hp; rw [decide_eq_true_iff] at hp; omega) (p - 2).toNat
  have e1 : y * x * rcp p x % p = rcp p x := by
    rw [← mul_emod_l, h, Int.one_mul]; exact Int.emod_eq_of_lt h2.1 h2.2
  have e2 : y * x * rcp p x % p = y := by
    rw [Int.mul_assoc, ← mul_emod_r, hr, Int.mul_one]; exact Int.emod_eq_of_lt hy0 hy1
  exact e2.symm.trans e1
theorem rcp_pos (p x : Int) (hp : primeB p = true) (h0 : 1 ≤ x) (h1 : x < p) : 1 ≤ rcp p x ∧ rcp p x < p := by
  have hr := rcp_mul p x hp h0 h1
  have h2 := pw_range p x (by unfold primeB at hp; rw [decide_eq_true_iff] at hp; omega) (p - 2).toNat
  refine ⟨?_, h2.2⟩
  have : rcp p x ≠ 0 := by
    intro e; rw [e, Int.mul_zero, Int.zero_emod] at hr; omega
  have h3 : 0 ≤ rcp p x := h2.1
  omega
/-- No divisors of zero. -/
theorem mul_ne (p a b : Int) (hp : primeB p = true) (a0 : 1 ≤ a) (a1 : a < p) (b0 : 1 ≤ b) (b1 : b < p) : 1 ≤ a * b % p := by
  have p2 : 2 ≤ p := by unfold primeB at hp; rw [decide_eq_true_iff] at hp; omega
  have h0 : 0 ≤ a * b % p := Int.emod_nonneg _ (by omega)
  refine Decidable.byContradiction fun hn => ?_
  have e : a * b % p = 0 := by omega
  have hr := rcp_mul p a hp a0 a1
  have : b = 0 := by
    have e2 : rcp p a * (a * b) % p = b := by
      rw [← Int.mul_assoc, Int.mul_comm (rcp p a), ← mul_emod_l, hr, Int.one_mul]
      exact Int.emod_eq_of_lt (by omega) b1
    rw [← e2, ← mul_emod_r, e, Int.mul_zero, Int.zero_emod]
  omega
theorem gpr_pos (p c : Int) (hp : primeB p = true) (k : Nat) (h : k < fz p c) : 1 ≤ gpr p c k ∧ gpr p c k < p := by
  have p2 : 2 ≤ p := by unfold primeB at hp; rw [decide_eq_true_iff] at hp; omega
  induction k with
  | zero => show (1 : Int) ≤ 1 ∧ (1 : Int) < p; omega
  | succ k ih =>
    have := ih (by omega)
    have hc := cheb_range p c p2 (k + 1)
    have hn := fz_before p c (k + 1) (by omega) h
    exact ⟨mul_ne p _ _ hp this.1 this.2 (by omega) hc.2, Int.emod_lt_of_pos _ (by omega)⟩
/-- Divided one after the other, or by the product. -/
theorem theta_eq (p t a b c : Int) (hp : primeB p = true) (a0 : 1 ≤ a) (a1 : a < p) (b0 : 1 ≤ b) (b1 : b < p) (c0 : 1 ≤ c) (c1 : c < p) :
    t * rcp p a % p * rcp p b % p * rcp p c % p = t * rcp p (a * b % p * c % p) % p := by
  have p2 : 2 ≤ p := by unfold primeB at hp; rw [decide_eq_true_iff] at hp; omega
  have hab := mul_ne p a b hp a0 a1 b0 b1
  have hab2 : a * b % p < p := Int.emod_lt_of_pos _ (by omega)
  have habc := mul_ne p _ c hp hab hab2 c0 c1
  have habc2 : a * b % p * c % p < p := Int.emod_lt_of_pos _ (by omega)
  have ra := rcp_mul p a hp a0 a1
  have rb := rcp_mul p b hp b0 b1
  have rc := rcp_mul p c hp c0 c1
  have key : (rcp p a * rcp p b * rcp p c) % p = rcp p (a * b % p * c % p) := by
    refine rcp_one p _ _ hp habc habc2 (Int.emod_nonneg _ (by omega)) (Int.emod_lt_of_pos _ (by omega)) ?_
    rw [mul_emod_l, mul_emod_r]
    rw [← Int.mul_assoc, ← mul_emod_l, mul_emod_r, mul_emod_l]
    have : rcp p a * rcp p b * rcp p c * (a * b) * c = (a * rcp p a) * ((b * rcp p b) * (c * rcp p c)) := by
      simp only [Int.mul_assoc, Int.mul_comm, Int.mul_left_comm]
    rw [this, ← mul_emod_l, ra, Int.one_mul, ← mul_emod_l, rb, Int.one_mul, rc]
  rw [← key, mul_emod_r]
  rw [mul_emod_l p (t * rcp p a) (rcp p b), mul_emod_l]
  congr 1
  simp only [Int.mul_assoc]
end Go.Proofs.Ytbibmncepjmgcaa
namespace Go.Proofs.Ytbibmncepjmgcaa
open Go.RowKit
set_option linter.unusedVariables false
theorem bnd_mul (p a b x : Int) (hp : 2 ≤ p) (hp2 : p ≤ 97) (a0 : 0 ≤ a) (a1 : a < p) (b0 : 0 ≤ b) (b1 : b < p) : 0 ≤ a * b ∧ a * b ≤ 9409 := by
  refine ⟨Int.mul_nonneg a0 b0, ?_⟩
  have h1 : a * b ≤ 97 * b := Int.mul_le_mul_of_nonneg_right (by omega) b0
  omega
set_option maxRecDepth 100000 in
theorem remI_any (p x : Int) (w : World) (hp : 2 ≤ p) (hp2 : p ≤ 97) (h0 : -1000000000000 ≤ x) (h1 : x ≤ 1000000000000) :
    Calls Try.prog 89 #[.int .i64 p, .int .i64 x] w fun e w' => e = .returned (.int .i64 (x % p)) ∧ w = w' := by
  have hl := Lib.hid (lmod p x (by omega))
  have h2 : -p < x.tmod p := by
    have := Int.lt_tmod_of_pos x (show 0 < p by omega); omega
  have h3 : x.tmod p < p := Int.tmod_lt_of_pos x (by omega)
  have e0 : (p == 0) = false := by simp; omega
  have e1 : IntKind.i64.wrap (x.tmod p) = x.tmod p := IntWalk.i64_in _ (by omega)
  have e2 : IntKind.i64.wrap (x.tmod p + p) = x.tmod p + p := IntWalk.i64_in _ (by omega)
  rw [← hl.out]
  generalize hy : x.tmod p = y at *
  have e3 : IntKind.i64.wrap ((y + p).tmod p) = (y + p).tmod p := by
    rw [Int.tmod_eq_emod_of_nonneg (by omega)]
    have := Int.emod_nonneg (y + p) (show p ≠ 0 by omega)
    have := Int.emod_lt_of_pos (y + p) (show 0 < p by omega)
    exact IntWalk.i64_in _ (by omega)
  go_enter Try.func89, Try.ntmps89
  go_wp2
  go_ret
  refine ⟨?_, rfl⟩
  show Ending.returned (.int .i64 ((y + p) % p)) = _
  rw [Int.tmod_eq_emod_of_nonneg (by omega)]
set_option maxRecDepth 100000 in
theorem modS_any (p x : Int) (w : World) (hp : 2 ≤ p) (hp2 : p ≤ 97) (h0 : -1000000000000 ≤ x) (h1 : x ≤ 1000000000000) :
    Calls Try.prog 58 #[.int .i64 p, .int .i64 x] w fun e w' => e = .returned (.int .i64 (x % p)) ∧ w = w' := by
  have hl := Lib.hid (lmod p x (by omega))
  have h2 : -p < x.tmod p := by
    have := Int.lt_tmod_of_pos x (show 0 < p by omega); omega
  have h3 : x.tmod p < p := Int.tmod_lt_of_pos x (by omega)
  have e0 : (p == 0) = false := by simp; omega
  have e1 : IntKind.i64.wrap (x.tmod p) = x.tmod p := IntWalk.i64_in _ (by omega)
  have e2 : IntKind.i64.wrap (x.tmod p + p) = x.tmod p + p := IntWalk.i64_in _ (by omega)
  rw [← hl.out]
  generalize hy : x.tmod p = y at *
  have e3 : IntKind.i64.wrap ((y + p).tmod p) = (y + p).tmod p := by
    rw [Int.tmod_eq_emod_of_nonneg (by omega)]
    have := Int.emod_nonneg (y + p) (show p ≠ 0 by omega)
    have := Int.emod_lt_of_pos (y + p) (show 0 < p by omega)
    exact IntWalk.i64_in _ (by omega)
  go_enter Try.func58, Try.ntmps58
  go_wp2
  go_ret
  refine ⟨?_, rfl⟩
  show Ending.returned (.int .i64 ((y + p) % p)) = _
  rw [Int.tmod_eq_emod_of_nonneg (by omega)]
theorem primeB_two {p : Int} (h : primeB p = true) : 2 ≤ p ∧ p ≤ 97 := by
  unfold primeB at h; rw [decide_eq_true_iff] at h; exact ⟨h.1, h.2.1⟩
set_option maxRecDepth 100000 in
theorem powI_any (p k : Int) (n : Nat) (w : World) (hp : 2 ≤ p) (hp2 : p ≤ 97) (hk0 : 0 ≤ k) (hk1 : k < p) (hn : n ≤ 1000) :
    Calls Try.prog 59 #[.int .i64 p, .int .i64 k, .int .i64 n] w fun e w' => e = .returned (.int .i64 (pw p k n)) ∧ w = w' := by
  have e0 : (p == 0) = false := by simp; omega
  have hr := Lib.hid (pw_range p k hp)
  go_enter Try.func59, Try.ntmps59
  go_wp2
  go_loopw [7, 9] (fun v i wr => ∃ j : Nat, j ≤ n ∧ i = .int .i64 j ∧ v = .int .i64 (pw p k j) ∧ wr = w) (fun _ i _ => ((n : Int) - intOf i).toNat)
  case atStart => exact ⟨0, by omega, rfl, rfl, rfl⟩
  case round =>
    obtain ⟨j, hj, rfl, rfl, rfl⟩ := hrel
    by_cases hlt : j < n
    · have r := hr.out j
      have m1 := bnd_mul p (pw p k j) k 0 hp hp2 r.1 r.2 hk0 hk1
      have hx : Hid (pw p k (j + 1) = pw p k j * k % p) := Lib.hid rfl
      generalize pw p k j = x at *
      go_wp2
      go_roundw
      case rel => exact ⟨j + 1, by omega, by go_num, by rw [hx.out], trivial⟩
      case measure => simp [intOf]; omega
    · obtain rfl : j = n := by omega
      go_wp2
      go_ret
      exact ⟨rfl, rfl⟩
set_option maxRecDepth 100000 in
theorem rcpI_any (p x : Int) (w : World) (hp : 2 ≤ p) (hp2 : p ≤ 97) (hk0 : 0 ≤ x) (hk1 : x < p) :
    Calls Try.prog 88 #[.int .i64 p, .int .i64 x] w fun e w' => e = .returned (.int .i64 (rcp p x)) ∧ w = w' := by
  unfold rcp
  obtain ⟨n, hn⟩ : ∃ n : Nat, p - 2 = n := ⟨(p - 2).toNat, by omega⟩
  rw [hn, Int.toNat_natCast]
  have hpw := Lib.hid (powI_any p x n w hp hp2 hk0 hk1 (by omega))
  rw [← hn] at hpw
  clear hn
  go_enter Try.func88, Try.ntmps88
  go_wp2_with (first
    | (go_at_call 59; ((with_reducible refine (hpw.out).mono ?_); rintro e w1 ⟨rfl, rfl⟩)))
  go_ret
  exact ⟨rfl, rfl⟩
set_option maxRecDepth 100000 in
theorem invS_any (p x : Int) (w : World) (hpr : primeB p = true) (hx0 : 1 ≤ x) (hx1 : x < p) :
    Calls Try.prog 55 #[.int .i64 p, .int .i64 x] w fun e w' => e = .returned (.int .i64 (rcp p x)) ∧ w = w' := by
  obtain ⟨hp, hp2⟩ := primeB_two hpr
  have hr := rcp_pos p x hpr hx0 hx1
  have hrm := rcp_mul p x hpr hx0 hx1
  have hone := Lib.hid (fun y h0 h1 h => rcp_one p x y hpr hx0 hx1 h0 h1 h)
  have hmod0 := fun w1 => modS_any p x w1 hp hp2 (by omega) (by omega)
  rw [Int.emod_eq_of_lt (by omega) hx1] at hmod0
  have hmod := Lib.hid hmod0
  have e0 : (p == 0) = false := by simp; omega
  obtain ⟨R, hR⟩ : ∃ R : Nat, rcp p x = R := ⟨(rcp p x).toNat, by omega⟩
  rw [hR] at hr hrm ⊢
  rw [hR] at hone
  have hrm' := Lib.hid (show (R : Int) * x % p = 1 by rw [Int.mul_comm]; exact hrm)
  clear hR hpr hmod0 hrm
  go_enter Try.func55, Try.ntmps55
  go_wp2
  go_loopw [5] (fun i wr => ∃ k : Nat, 1 ≤ k ∧ k ≤ R ∧ i = .int .i64 k ∧ wr = w) (fun i _ => ((R : Int) + 1 - intOf i).toNat)
  case atStart => exact ⟨1, by omega, by omega, rfl, rfl⟩
  case round =>
    obtain ⟨k, hk1, hk2, rfl, rfl⟩ := hrel
    have m1 := bnd_mul p k x 0 hp hp2 (by omega) (by omega) (by omega) hx1
    by_cases hlt : k < R
    · have hne : ¬ ((k : Int) * x % p = 1) := by
        intro h
        have := hone.out k (by omega) (by omega) h
        omega
      have b : ((k : Int) * x % p == 1) = false := by simpa using hne
      have kp : (k : Int) < p := by omega
      clear hne
      go_wp2_with (first
        | (go_at_call 58; ((with_reducible refine (hmod.out _).mono ?_); rintro e w3 ⟨rfl, rfl⟩)))
      go_roundw
      case rel => exact ⟨k + 1, by omega, by omega, by go_num, trivial⟩
      case measure => simp [intOf]; omega
    · obtain rfl : k = R := by omega
      have b : ((k : Int) * x % p == 1) = true := by simpa using hrm'.out
      have kp : (k : Int) < p := by omega
      go_wp2_with (first
        | (go_at_call 58; ((with_reducible refine (hmod.out _).mono ?_); rintro e w3 ⟨rfl, rfl⟩)))
      go_ret
      exact ⟨rfl, rfl⟩
/-- A number that is an int64. -/
theorem of_wf {a : Int} (h : (Lit.int IntKind.i64 a).wf = true) : -9223372036854775808 ≤ a ∧ a ≤ 9223372036854775807 := by
  have h' : (decide (IntKind.i64.min ≤ a) && decide (a ≤ IntKind.i64.max)) = true := h
  rw [Bool.and_eq_true, decide_eq_true_iff, decide_eq_true_iff, show IntKind.i64.min = -9223372036854775808 by decide, show IntKind.i64.max = 9223372036854775807 by decide] at h'
  exact h'
end Go.Proofs.Ytbibmncepjmgcaa
namespace Go.Proofs.Ytbibmncepjmgcaa
set_option linter.unusedSectionVars false
set_option linter.unusedVariables false
structure Lin (K : Type) (lt : K → K → Bool) (V : K → Prop) : Prop where
  irr : ∀ x, V x → lt x x = false
  tr : ∀ x y z, V x → V y → V z → lt x y = true → lt y z = true → lt x z = true
  tot : ∀ x y, V x → V y → lt x y = false → lt y x = false → x = y
structure Trm (K T : Type) where
  key : T → K
  fc : T → Int
  mkt : K → Int → T
  key_mk : ∀ d k, key (mkt d k) = d
  fc_mk : ∀ d k, fc (mkt d k) = k
  mkt_key : ∀ t, mkt (key t) (fc t) = t
section
variable {K T : Type} [DecidableEq K] (lt : K → K → Bool) (V : K → Prop) (R : Trm K T)
/-- k, not 0 modulo p, times a key is added to a list. -/
def put (p : Int) (d : K) (k : Int) : List T → List T
  | [] => [R.mkt d k]
  | t :: ts => if lt (R.key t) d then t :: put p d k ts
    else if R.key t = d then (if (R.fc t + k) % p = 0 then ts else R.mkt d ((R.fc t + k) % p) :: ts)
    else R.mkt d k :: t :: ts
/-- k times a key is added. -/
def addL (p : Int) (d : K) (k : Int) (ts : List T) : List T := if k % p = 0 then ts else put lt R p d (k % p) ts
/-- The factor of a key. -/
def fac (d : K) : List T → Int
  | [] => 0
  | t :: ts => if R.key t = d then R.fc t else fac d ts
/-- A sum modulo p: keys in order, factors not 0. -/
structure Good (p : Int) (ts : List T) : Prop where
  val : ∀ t ∈ ts, V (R.key t)
  rng : ∀ t ∈ ts, 1 ≤ R.fc t ∧ R.fc t < p
  srt : ts.Pairwise (fun s t => lt (R.key s) (R.key t) = true)
variable {lt V R}
theorem Good.nil (p : Int) : Good lt V R p [] := ⟨by simp, by simp, List.Pairwise.nil⟩
theorem Good.tail {p : Int} {t : T} {ts : List T} (h : Good lt V R p (t :: ts)) : Good lt V R p ts :=
  ⟨fun x hx => h.val x (List.mem_cons_of_mem _ hx), fun x hx => h.rng x (List.mem_cons_of_mem _ hx), (List.pairwise_cons.1 h.srt).2⟩
theorem fac_none {d : K} {ts : List T} (h : ∀ t ∈ ts, R.key t ≠ d) : fac R d ts = 0 := by
  induction ts with
  | nil => rfl
  | cons t ts ih =>
    rw [fac, if_neg (h t (List.mem_cons_self ..))]
    exact ih (fun x hx => h x (List.mem_cons_of_mem _ hx))
theorem Good.ne (O : Lin K lt V) {p : Int} {t : T} {ts : List T} (h : Good lt V R p (t :: ts)) : ∀ s ∈ ts, R.key s ≠ R.key t := by
  intro s hs e
  have h1 := (List.pairwise_cons.1 h.srt).1 s hs
  rw [e] at h1
  rw [O.irr _ (h.val t (List.mem_cons_self ..))] at h1
  cases h1
theorem fac_mem (O : Lin K lt V) {p : Int} {ts : List T} (h : Good lt V R p ts) {t : T} (ht : t ∈ ts) : fac R (R.key t) ts = R.fc t := by
  induction ts with
  | nil => cases ht
  | cons s ts ih =>
    rcases List.mem_cons.1 ht with rfl | ht
    · rw [fac, if_pos rfl]
    · rw [fac, if_neg (fun e => h.ne O t ht e.symm)]
      exact ih h.tail ht
theorem fac_rng {p : Int} (hp : 0 < p) {ts : List T} (h : Good lt V R p ts) (d : K) : 0 ≤ fac R d ts ∧ fac R d ts < p := by
  induction ts with
  | nil => exact ⟨Int.le_refl _, hp⟩
  | cons t ts ih =>
    rw [fac]
    split
    · have := h.rng t (List.mem_cons_self ..); omega
    · exact ih h.tail
theorem fac_zero {p : Int} {ts : List T} (h : Good lt V R p ts) {d : K} : fac R d ts = 0 ↔ ∀ t ∈ ts, R.key t ≠ d := by
  refine ⟨fun h0 t ht e => ?_, fac_none⟩
  induction ts with
  | nil => cases ht
  | cons s ts ih =>
    rw [fac] at h0
    split at h0
    · have := h.rng s (List.mem_cons_self ..); omega
    · rcases List.mem_cons.1 ht with rfl | ht
      · contradiction
      · exact ih h.tail h0 ht
theorem put_keys {p : Int} {d : K} {k : Int} {ts : List T} : ∀ t ∈ put lt R p d k ts, R.key t = d ∨ ∃ s ∈ ts, R.key t = R.key s := by
  induction ts with
  | nil => intro t ht; left; simp [put] at ht; subst ht; exact R.key_mk _ _
  | cons s ts ih =>
    intro t ht
    rw [put] at ht
    split at ht
    · rcases List.mem_cons.1 ht with rfl | ht
      · exact .inr ⟨t, List.mem_cons_self .., rfl⟩
      · rcases ih t ht with h | ⟨x, hx, h⟩
        · exact .inl h
        · exact .inr ⟨x, List.mem_cons_of_mem _ hx, h⟩
    · split at ht
      · split at ht
        · exact .inr ⟨t, List.mem_cons_of_mem _ ht, rfl⟩
        · rcases List.mem_cons.1 ht with rfl | ht
          · exact .inl (R.key_mk _ _)
          · exact .inr ⟨t, List.mem_cons_of_mem _ ht, rfl⟩
      · rcases List.mem_cons.1 ht with rfl | ht
        · exact .inl (R.key_mk _ _)
        · exact .inr ⟨t, ht, rfl⟩
theorem put_good (O : Lin K lt V) {p : Int} {d : K} {k : Int} (hp : 0 < p) (hd : V d) (h1 : 1 ≤ k) (h2 : k < p) {ts : List T} (h : Good lt V R p ts) : Good lt V R p (put lt R p d k ts) := by
  induction ts with
  | nil =>
    refine ⟨fun t ht => ?_, fun t ht => ?_, by simp [put]⟩
    · simp [put] at ht; subst ht; rw [R.key_mk]; exact hd
    · simp [put] at ht; subst ht; rw [R.fc_mk]; exact ⟨h1, h2⟩
  | cons s ts ih =>
    have hs := h.val s (List.mem_cons_self ..)
    have hh := ih h.tail
    have hpw := List.pairwise_cons.1 h.srt
    rw [put]
    split
    next hlt =>
      refine ⟨fun t ht => ?_, fun t ht => ?_, List.pairwise_cons.2 ⟨fun t ht => ?_, hh.srt⟩⟩
      · rcases List.mem_cons.1 ht with rfl | ht
        · exact hs
        · exact hh.val t ht
      · rcases List.mem_cons.1 ht with rfl | ht
        · exact h.rng t (List.mem_cons_self ..)
        · exact hh.rng t ht
      · rcases put_keys t ht with e | ⟨x, hx, e⟩
        · rw [e]; exact hlt
        · rw [e]; exact hpw.1 x hx
    next hlt =>
      have hlt' : lt (R.key s) d = false := by cases q : lt (R.key s) d <;> simp_all
      split
      next e =>
        split
        · exact h.tail
        next h0 =>
          have a := Int.emod_nonneg (R.fc s + k) (show p ≠ 0 by omega)
          have b := Int.emod_lt_of_pos (R.fc s + k) hp
          refine ⟨fun t ht => ?_, fun t ht => ?_, List.pairwise_cons.2 ⟨fun t ht => ?_, hpw.2⟩⟩
          · rcases List.mem_cons.1 ht with rfl | ht
            · rw [R.key_mk]; exact hd
            · exact h.tail.val t ht
          · rcases List.mem_cons.1 ht with rfl | ht
            · rw [R.fc_mk]; omega
            · exact h.tail.rng t ht
          · rw [R.key_mk, ← e]; exact hpw.1 t ht
      next e =>
        have hds : lt d (R.key s) = true := by
          cases q : lt d (R.key s) with
          | true => rfl
          | false => exact absurd (O.tot _ _ hs hd hlt' q) e
        refine ⟨fun t ht => ?_, fun t ht => ?_, List.pairwise_cons.2 ⟨fun t ht => ?_, h.srt⟩⟩
        · rcases List.mem_cons.1 ht with rfl | ht
          · rw [R.key_mk]; exact hd
          · exact h.val t ht
        · rcases List.mem_cons.1 ht with rfl | ht
          · rw [R.fc_mk]; exact ⟨h1, h2⟩
          · exact h.rng t ht
        · rw [R.key_mk]
          rcases List.mem_cons.1 ht with rfl | ht
          · exact hds
          · exact O.tr _ _ _ hd hs (h.tail.val t ht) hds (hpw.1 t ht)
theorem fac_put (O : Lin K lt V) {p : Int} {d : K} {k : Int} (hp : 0 < p) (hd : V d) (h1 : 1 ≤ k) (h2 : k < p) {ts : List T} (h : Good lt V R p ts) (e : K) :
    fac R e (put lt R p d k ts) = if e = d then (fac R d ts + k) % p else fac R e ts := by
  induction ts with
  | nil =>
    simp only [put, fac, R.key_mk, R.fc_mk]
    by_cases q : e = d
    · subst q; rw [if_pos rfl, if_pos rfl, Int.zero_add, Int.emod_eq_of_lt (by omega) h2]
    · rw [if_neg (fun x => q x.symm), if_neg q]
  | cons s ts ih =>
    have hs := h.val s (List.mem_cons_self ..)
    have hpw := List.pairwise_cons.1 h.srt
    have hh := ih h.tail
    have hr := h.rng s (List.mem_cons_self ..)
    rw [put]
    split
    next hlt =>
      have hne : R.key s ≠ d := fun q => by rw [q, O.irr _ hd] at hlt; cases hlt
      by_cases q : e = d
      · subst q; rw [fac, if_neg hne, hh, if_pos rfl, if_pos rfl, fac, if_neg hne]
      · rw [fac, hh, if_neg q, if_neg q, fac]
    next hlt =>
      have hlt' : lt (R.key s) d = false := by cases q : lt (R.key s) d <;> simp_all
      split
      next q0 =>
        have hno : fac R d ts = 0 := fac_none (fun t ht => by rw [← q0]; exact h.ne O t ht)
        split
        next h0 =>
          by_cases q : e = d
          · subst q; rw [hno, if_pos rfl, fac, if_pos q0, h0]
          · rw [if_neg q, fac, if_neg (by rw [q0]; exact fun x => q x.symm)]
        next h0 =>
          rw [fac, R.key_mk, R.fc_mk]
          by_cases q : e = d
          · subst q; rw [if_pos rfl, if_pos rfl, fac, if_pos q0]
          · rw [if_neg (fun x => q x.symm), if_neg q, fac, if_neg (by rw [q0]; exact fun x => q x.symm)]
      next q0 =>
        have hds : lt d (R.key s) = true := by
          cases q : lt d (R.key s) with
          | true => rfl
          | false => exact absurd (O.tot _ _ hs hd hlt' q) q0
        have hno : fac R d (s :: ts) = 0 := fac_none (fun t ht x => by
          rcases List.mem_cons.1 ht with rfl | ht
          · exact q0 x
          · have := O.tr _ _ _ hd hs (h.tail.val t ht) hds (hpw.1 t ht)
            rw [x, O.irr _ hd] at this; cases this)
        rw [fac, R.key_mk, R.fc_mk]
        by_cases q : e = d
        · subst q; rw [if_pos rfl, if_pos rfl, hno, Int.zero_add, Int.emod_eq_of_lt (by omega) h2]
        · rw [if_neg (fun x => q x.symm), if_neg q]
theorem add_good (O : Lin K lt V) {p : Int} {d : K} {k : Int} (hp : 0 < p) (hd : V d) {ts : List T} (h : Good lt V R p ts) : Good lt V R p (addL lt R p d k ts) := by
  unfold addL
  have a := Int.emod_nonneg k (show p ≠ 0 by omega)
  have b := Int.emod_lt_of_pos k hp
  split
  · exact h
  · exact put_good O hp hd (by omega) b h
theorem fac_add (O : Lin K lt V) {p : Int} {d : K} {k : Int} (hp : 0 < p) (hd : V d) {ts : List T} (h : Good lt V R p ts) (e : K) :
    fac R e (addL lt R p d k ts) = if e = d then (fac R d ts + k) % p else fac R e ts := by
  have a := Int.emod_nonneg k (show p ≠ 0 by omega)
  have b := Int.emod_lt_of_pos k hp
  have r := fac_rng hp h d
  unfold addL
  split
  next h0 =>
    split
    next q => subst q; rw [Int.add_emod, h0, Int.add_zero, Int.emod_emod, Int.emod_eq_of_lt r.1 r.2]
    next => rfl
  next h0 =>
    rw [fac_put O hp hd (by omega) b h]
    split
    · rw [Int.add_emod_emod]
    · rfl
theorem put_len {p : Int} {d : K} {k : Int} : ∀ ts : List T, (put lt R p d k ts).length ≤ ts.length + 1
  | [] => by simp [put]
  | t :: ts => by
    have : (put lt R p d k ts).length ≤ ts.length + 1 := put_len ts
    rw [put]
    split
    · simp; omega
    · split
      · split
        · simp; omega
        · simp
      · simp
theorem add_len {p : Int} {d : K} {k : Int} (ts : List T) : (addL lt R p d k ts).length ≤ ts.length + 1 := by
  unfold addL
  split
  · omega
  · exact put_len ts
/-- Where a key is put: behind the first c entries. -/
def tailP (p : Int) (d : K) (k : Int) : List T → List T
  | [] => [R.mkt d k]
  | t :: ts => if R.key t = d then (if (R.fc t + k) % p = 0 then ts else R.mkt d ((R.fc t + k) % p) :: ts) else R.mkt d k :: t :: ts
theorem put_cut {p : Int} {d : K} {k : Int} : ∀ (c : Nat) (ts : List T), c ≤ ts.length → (∀ t ∈ ts.take c, lt (R.key t) d = true) → (∀ t ∈ ts.drop c, lt (R.key t) d = false) → put lt R p d k ts = ts.take c ++ tailP (R := R) p d k (ts.drop c)
  | 0, [], _, _, _ => rfl
  | 0, t :: ts, _, _, h2 => by
    have : lt (R.key t) d = false := h2 t (by simp)
    rw [put, if_neg (by rw [this]; simp)]
    rfl
  | c + 1, [], h, _, _ => by simp at h
  | c + 1, t :: ts, h, h1, h2 => by
    have a : lt (R.key t) d = true := h1 t (by simp)
    have : put lt R p d k ts = ts.take c ++ tailP (R := R) p d k (ts.drop c) := put_cut c ts (by simpa using h) (fun x hx => h1 x (by simp [hx])) (fun x hx => h2 x (by simpa using hx))
    rw [put, if_pos a, this]
    rfl
/-- A sum is told by its factors. -/
theorem good_unique (O : Lin K lt V) {p : Int} : ∀ {a b : List T}, Good lt V R p a → Good lt V R p b → (∀ d, fac R d a = fac R d b) → a = b
  | [], [], _, _, _ => rfl
  | [], t :: b, ha, hb, h => by
    have := h (R.key t)
    rw [fac, fac, if_pos rfl] at this
    have := hb.rng t (List.mem_cons_self ..)
    omega
  | s :: a, [], ha, hb, h => by
    have := h (R.key s)
    rw [fac, fac, if_pos rfl] at this
    have := ha.rng s (List.mem_cons_self ..)
    omega
  | s :: a, t :: b, ha, hb, h => by
    have vs := ha.val s (List.mem_cons_self ..)
    have vt := hb.val t (List.mem_cons_self ..)
    have ra := ha.rng s (List.mem_cons_self ..)
    have rb := hb.rng t (List.mem_cons_self ..)
    have ks : R.key s = R.key t := by
      cases q : lt (R.key s) (R.key t) with
      | true =>
        exfalso
        have h1 := h (R.key s)
        have : fac R (R.key s) (t :: b) = 0 := fac_none (fun x hx e => by
          rcases List.mem_cons.1 hx with rfl | hx
          · rw [e, O.irr _ vs] at q; cases q
          · have := O.tr _ _ _ vs vt (hb.tail.val x hx) q ((List.pairwise_cons.1 hb.srt).1 x hx)
            rw [e, O.irr _ vs] at this; cases this)
        rw [this, fac, if_pos rfl] at h1
        omega
      | false =>
        cases q' : lt (R.key t) (R.key s) with
        | true =>
          exfalso
          have h1 := h (R.key t)
          have : fac R (R.key t) (s :: a) = 0 := fac_none (fun x hx e => by
            rcases List.mem_cons.1 hx with rfl | hx
            · rw [e, O.irr _ vt] at q'; cases q'
            · have := O.tr _ _ _ vt vs (ha.tail.val x hx) q' ((List.pairwise_cons.1 ha.srt).1 x hx)
              rw [e, O.irr _ vt] at this; cases this)
          rw [this, fac, if_pos rfl] at h1
          omega
        | false => exact O.tot _ _ vs vt q q'
    have fs : R.fc s = R.fc t := by
      have h1 := h (R.key s)
      rw [fac, if_pos rfl, fac, if_pos ks.symm] at h1
      exact h1
    have e : s = t := by rw [← R.mkt_key s, ← R.mkt_key t, ks, fs]
    subst e
    have : a = b := good_unique O ha.tail hb.tail (fun d => by
      by_cases q : R.key s = d
      · subst q
        rw [fac_none (ha.ne O), fac_none (hb.ne O)]
      · have := h d
        rw [fac, fac, if_neg q, if_neg q] at this
        exact this)
    rw [this]
end
end Go.Proofs.Ytbibmncepjmgcaa
namespace Go.Proofs.Ytbibmncepjmgcaa
open Go.RowKit
set_option linter.unusedVariables false
theorem bl_irr : ∀ x : List UInt8, Op.bytesLess x x = false
  | [] => rfl
  | a :: x => by rw [Op.bytesLess]; simp [bl_irr x]
theorem bl_tr : ∀ x y z : List UInt8, Op.bytesLess x y = true → Op.bytesLess y z = true → Op.bytesLess x z = true
  | [], [], _, h, _ => by simp [Op.bytesLess] at h
  | [], _ :: _, [], _, h => by simp [Op.bytesLess] at h
  | [], _ :: _, _ :: _, _, _ => by simp [Op.bytesLess]
  | _ :: _, [], _, h, _ => by simp [Op.bytesLess] at h
  | _ :: _, _ :: _, [], _, h => by simp [Op.bytesLess] at h
  | a :: x, b :: y, c :: z, h, h' => by
    simp only [Op.bytesLess, Bool.or_eq_true, Bool.and_eq_true, decide_eq_true_eq, beq_iff_eq] at h h' ⊢
    rcases h with h | ⟨rfl, h⟩
    · rcases h' with h' | ⟨rfl, h'⟩
      · exact .inl (UInt8.lt_trans h h')
      · exact .inl h
    · rcases h' with h' | ⟨rfl, h'⟩
      · exact .inl h'
      · exact .inr ⟨rfl, bl_tr x y z h h'⟩
theorem bl_tot : ∀ x y : List UInt8, Op.bytesLess x y = false → Op.bytesLess y x = false → x = y
  | [], [], _, _ => rfl
  | [], _ :: _, h, _ => by simp [Op.bytesLess] at h
  | _ :: _, [], _, h => by simp [Op.bytesLess] at h
  | a :: x, b :: y, h, h' => by
    simp only [Op.bytesLess, Bool.or_eq_false_iff, Bool.and_eq_false_iff, decide_eq_false_iff_not, beq_eq_false_iff_ne] at h h'
    have e : a = b := by
      have h1 := UInt8.not_lt.1 h.1
      have h2 := UInt8.not_lt.1 h'.1
      exact UInt8.le_antisymm h2 h1
    subst e
    have h3 : Op.bytesLess x y = false := by rcases h.2 with q | q; exact absurd rfl q; exact q
    have h4 : Op.bytesLess y x = false := by rcases h'.2 with q | q; exact absurd rfl q; exact q
    rw [bl_tot x y h3 h4]
/-- Diagrams: sizes and mates. -/
abbrev Dg := Int × List Int
def VD (d : Dg) : Prop := isD d.1 d.2 = true ∧ d.2.length = 16 ∧ Bytes d.2
def ltD (x y : Dg) : Bool := Op.bytesLess (textS x.1 x.2).toList (textS y.1 y.2).toList
theorem linD : Lin Dg ltD VD where
  irr x _ := bl_irr _
  tr x y z _ _ _ := bl_tr _ _ _
  tot x y hx hy h1 h2 := by
    have e := bl_tot _ _ h1 h2
    have e2 : (textS x.1 x.2).data.toList = (textS y.1 y.2).data.toList := by
      have := e
      rw [ByteArray.toList_eq, ByteArray.toList_eq] at this; exact this
    have a := hx.1
    have b := hy.1
    unfold isD at a b
    rw [Bool.and_eq_true, decide_eq_true_iff, decide_eq_true_iff] at a b
    rw [e2, b.2] at a
    have := a.2
    injection this with this
    exact this.symm
def trmT : Trm Dg Tm where
  key t := (t.1, t.2.1)
  fc t := t.2.2
  mkt d k := (d.1, d.2, k)
  key_mk _ _ := rfl
  fc_mk _ _ := rfl
  mkt_key _ := rfl
/-- A sum of terms modulo p. -/
abbrev GoodT (p : Int) (ts : List Tm) : Prop := Good ltD VD trmT p ts
abbrev addT (p : Int) (d : Dg) (k : Int) (ts : List Tm) : List Tm := addL ltD trmT p d k ts
end Go.Proofs.Ytbibmncepjmgcaa
