/- Both tests of primes. Chebyshev numbers, as plain numbers: their range, their first zero, their products, inverses modulo a prime. Products of Chebyshev numbers, powers and inverses modulo a prime; theta numbers. Arithmetic modulo a prime: remainders, powers, inverses, of the program and of the model. Elimination of rows, plain: the program's way and the model's. A region that draws its order, by what each of its operations leaves behind: one look at each operation serves every order. A region that draws its order and makes memory at its end: what only reads, in every world that keeps some facts, is read first; then come operations that keep these facts; then the rest, in one forced order. A region that draws its order and makes memory: steps of two kinds, one after the other: what only reads in every world that keeps some facts, wherever it comes; and what keeps these facts, in a forced order; then the rest, in one forced order. A table in memory: headers of rows in one block, all numbers in another one; its rows read, scaled, and added. A table in memory: a row scaled, a multiple of a row added to another one. A step of the elimination on all rows, plain. The model's elimination: its table in memory, and its steps, plain. Tables whose rows were appended one by one, each in a block of its own. l02Power, l04Numbers. -/
import Derived.Test.YtopenojociafaaaDoorBase
import Derived.Test.YtopenojociafaaaDoorSpecA
import Derived.IntWalk
import Derived.Orders
import Derived.Tactics
import Derived.StillTail
import Derived.OrdersHeld
import Derived.Test.YtopenojociafaaaDoorGma
import Derived.Deep.CutRange
namespace Go.Proofs.YtopenojociafaaaDoor
open Go.RowKit
set_option linter.unusedVariables false
/-- No number from 2 up to, and without, m divides p. -/
def NoDiv (p : Int) (m : Nat) : Prop := ∀ j : Nat, j < m → 2 ≤ j → p.tmod j ≠ 0
instance (p : Int) (m : Nat) : Decidable (NoDiv p m) := by unfold NoDiv; exact inferInstance
def primeB (p : Int) : Bool := decide (2 ≤ p ∧ p ≤ 97 ∧ NoDiv p p.toNat)
theorem NoDiv.next {p : Int} {m : Nat} (h : NoDiv p m) (hm : p.tmod m ≠ 0) : NoDiv p (m + 1) := by
  intro j hj h2
  by_cases e : j = m
  · subst e; exact hm
  · exact h j (by omega) h2
theorem NoDiv.root {p : Int} {m : Nat} (h : NoDiv p m) (h2 : 2 ≤ m) (hp : 2 ≤ p) (hm : p < (m : Int) * m) : NoDiv p p.toNat := by
  intro j jp j2 hj
  obtain ⟨P, rfl⟩ : ∃ P : Nat, p = P := ⟨p.toNat, by omega⟩
  have hd : P % j = 0 := by
    have : ((P % j : Nat) : Int) = 0 := by rw [← hj]; exact Int.ofNat_tmod P j
    omega
  obtain ⟨q, rfl⟩ := Nat.dvd_of_mod_eq_zero hd
  by_cases hjm : j < m
  · exact h j hjm j2 hj
  · have hmm : j * q < m * m := by exact_mod_cast hm
    have q2 : 2 ≤ q := by
      refine Decidable.byContradiction fun hn => ?_
      have : q = 0 ∨ q = 1 := by omega
      rcases this with rfl | rfl
      · simp at hp
      · simp at jp
    have qm : q < m := by
      refine Decidable.byContradiction fun hn => ?_
      have : m * m ≤ j * q := Nat.mul_le_mul (by omega) (by omega)
      omega
    refine h q qm q2 ?_
    have : (j * q) % q = 0 := Nat.mul_mod_left j q
    rw [show (((j * q : Nat) : Int)).tmod (q : Int) = (((j * q) % q : Nat) : Int) from (Int.ofNat_tmod (j * q) q).symm, this]; rfl
set_option maxRecDepth 100000 in
set_option maxHeartbeats 1000000 in
theorem primeI_any (p : Int) (w : World) : Calls Tryd.prog 46 #[.int .i64 p] w fun e w' => e = .returned (.bool (primeB p)) ∧ w' = w := by
  by_cases h2 : p < 2
  · have e : primeB p = false := by unfold primeB; simp; omega
    rw [e]; clear e
    go_enter Tryd.func46, Tryd.ntmps46
    go_wp2
    go_ret
    exact ⟨rfl, rfl⟩
  · by_cases h97 : 97 < p
    · have e : primeB p = false := by unfold primeB; simp; omega
      rw [e]; clear e
      go_enter Tryd.func46, Tryd.ntmps46
      go_wp2
      go_ret
      exact ⟨rfl, rfl⟩
    · obtain ⟨b, hb⟩ : ∃ b, primeB p = b := ⟨_, rfl⟩
      rw [hb]
      have hb' := Lib.hid hb
      clear hb
      go_enter Tryd.func46, Tryd.ntmps46
      go_wp2
      go_loopw [3] (fun i wr => ∃ k : Nat, 2 ≤ k ∧ k ≤ 98 ∧ i = .int .i64 k ∧ Hid (NoDiv p k) ∧ wr = w) (fun i _ => (98 - intOf i).toNat)
      case atStart => exact ⟨2, by omega, by omega, rfl, Lib.hid (fun j a b => by omega), rfl⟩
      case round =>
        obtain ⟨k, hk2, hk98, rfl, hD, rfl⟩ := hrel
        have hkk : (k : Int) * k ≤ 9604 := by
          have : k * k ≤ 98 * 98 := Nat.mul_le_mul hk98 hk98
          omega
        have hkk0 : (0 : Int) ≤ (k : Int) * k := by exact_mod_cast Nat.zero_le _
        by_cases hlt : (k : Int) * k ≤ p
        · have kp : k < p.toNat := by
            have : (k : Int) * 2 ≤ (k : Int) * k := Int.mul_le_mul_of_nonneg_left (by omega) (by omega)
            omega
          by_cases hd : p.tmod k = 0
          · have e : b = false := by
              rw [← hb'.out]; unfold primeB
              rw [decide_eq_false_iff_not]
              exact fun h => h.2.2 k kp hk2 hd
            subst e
            go_wp2
            go_ret
            exact ⟨rfl, rfl⟩
          · have hD2 := Lib.hid (hD.out.next hd)
            have hd2 : (p % (k : Int) == 0) = false := by rw [beq_eq_false_iff_ne, ← Int.tmod_eq_emod_of_nonneg (by omega)]; exact hd
            have kp2 : (k : Int) < p := by omega
            clear hd kp
            go_wp2
            go_roundw
            case rel => exact ⟨k + 1, by omega, by omega, by go_num, hD2, trivial⟩
            case measure => simp [intOf]; omega
        · have e : b = true := by
            rw [← hb'.out]; unfold primeB
            rw [decide_eq_true_iff]
            exact ⟨by omega, by omega, hD.out.root hk2 (by omega) (by omega)⟩
          subst e
          go_wp2
          go_ret
          exact ⟨rfl, rfl⟩
set_option maxRecDepth 100000 in
set_option maxHeartbeats 1000000 in
theorem primeS_any (p : Int) (w : World) (hp : -9223372036854775808 ≤ p ∧ p ≤ 9223372036854775807) : Calls Tryd.prog 64 #[.int .i64 p] w fun e w' => e = .returned (.bool (primeB p)) ∧ w' = w := by
  obtain ⟨b, hb⟩ : ∃ b, primeB p = b := ⟨_, rfl⟩
  rw [hb]
  have hb' := Lib.hid hb
  clear hb
  obtain ⟨hp1, hp2⟩ := hp
  go_enter Tryd.func64, Tryd.ntmps64
  go_wp2
  go_loopw [3] (fun i wr => ∃ k : Nat, 2 ≤ k ∧ k ≤ 100 ∧ i = .int .i64 k ∧ Hid (NoDiv p k) ∧ wr = w) (fun i _ => (100 - intOf i).toNat)
  case atStart => exact ⟨2, by omega, by omega, rfl, Lib.hid (fun j a b => by omega), rfl⟩
  case round =>
    obtain ⟨k, hk2, hk98, rfl, hD, rfl⟩ := hrel
    by_cases hlt : (k : Int) < p
    · by_cases h100 : (k : Int) < 100
      · have h0 : ¬ ((k : Int) = 0) := by omega
        by_cases hd : p.tmod k = 0
        · have e : b = false := by
            rw [← hb'.out]; unfold primeB
            rw [decide_eq_false_iff_not]
            exact fun h => h.2.2 k (by omega) hk2 hd
          subst e
          go_wp2
          go_ret
          exact ⟨rfl, rfl⟩
        · have hD2 := Lib.hid (hD.out.next hd)
          have hd2 : (p % (k : Int) == 0) = false := by rw [beq_eq_false_iff_ne, ← Int.tmod_eq_emod_of_nonneg (by omega)]; exact hd
          clear hd
          go_wp2
          go_roundw
          case rel => exact ⟨k + 1, by omega, by omega, by go_num, hD2, trivial⟩
          case measure => simp [intOf]; omega
      · have e : b = false := by
          rw [← hb'.out]; unfold primeB
          rw [decide_eq_false_iff_not]
          exact fun h => by omega
        subst e
        go_wp2_with (first
          | (go_at_call 65; ((with_reducible refine (inS_f p 2 97 _ (by omega)).mono ?_); rintro e w0 ⟨rfl, hw⟩)))
        go_ret
        exact ⟨rfl, hw.symm⟩
    · by_cases h97 : 2 ≤ p ∧ p ≤ 97
      · have e : b = true := by
          rw [← hb'.out]; unfold primeB
          rw [decide_eq_true_iff]
          exact ⟨h97.1, h97.2, fun j hj h2 => hD.out j (by omega) h2⟩
        subst e
        obtain ⟨q1, q2⟩ := h97
        go_wp2_with (first
          | (go_at_call 65; ((with_reducible refine (inS_t p 2 97 _ q1 q2).mono ?_); rintro e w0 ⟨rfl, hw⟩)))
        go_ret
        exact ⟨rfl, hw.symm⟩
      · have e : b = false := by
          rw [← hb'.out]; unfold primeB
          rw [decide_eq_false_iff_not]
          exact fun h => by omega
        subst e
        go_wp2_with (first
          | (go_at_call 65; ((with_reducible refine (inS_f p 2 97 _ (by omega)).mono ?_); rintro e w0 ⟨rfl, hw⟩)))
        go_ret
        exact ⟨rfl, hw.symm⟩
set_option maxRecDepth 100000 in
theorem modI_any (p c : Int) (w : World) : Calls Tryd.prog 21 #[.int .i64 p, .int .i64 c] w fun e w' => e = .returned (.bool (primeB p && decide (0 ≤ c ∧ c < p))) ∧ w' = w := by
  have hq := Lib.hid (fun w => primeI_any p w)
  obtain ⟨b, hb⟩ : ∃ b, primeB p = b := ⟨_, rfl⟩
  rw [hb] at hq ⊢
  clear hb
  cases b with
  | false =>
    rw [Bool.false_and]
    go_enter Tryd.func21, Tryd.ntmps21
    go_wp2_with (first
      | (go_at_call 46; ((with_reducible refine (hq.out _).mono ?_); rintro e w1 ⟨rfl, hw⟩)))
    go_ret
    exact ⟨rfl, rfl⟩
  | true =>
    rw [Bool.true_and]
    by_cases h : 0 ≤ c
    · by_cases h2 : c < p
      · rw [show decide (0 ≤ c ∧ c < p) = true by simp [h, h2]]
        go_enter Tryd.func21, Tryd.ntmps21
        go_wp2_with (first
          | (go_at_call 46; ((with_reducible refine (hq.out _).mono ?_); rintro e w1 ⟨rfl, hw⟩)))
        go_ret
        exact ⟨by simp, rfl⟩
      · rw [show decide (0 ≤ c ∧ c < p) = false by simp; omega]
        go_enter Tryd.func21, Tryd.ntmps21
        go_wp2_with (first
          | (go_at_call 46; ((with_reducible refine (hq.out _).mono ?_); rintro e w1 ⟨rfl, hw⟩)))
        go_ret
        exact ⟨by simp <;> omega, rfl⟩
    · rw [show decide (0 ≤ c ∧ c < p) = false by simp; omega]
      go_enter Tryd.func21, Tryd.ntmps21
      go_wp2_with (first
        | (go_at_call 46; ((with_reducible refine (hq.out _).mono ?_); rintro e w1 ⟨rfl, hw⟩)))
      go_ret
      exact ⟨by simp <;> omega, rfl⟩
end Go.Proofs.YtopenojociafaaaDoor
namespace Go.Proofs.YtopenojociafaaaDoor
/-- The two last Chebyshev numbers. -/
def ch (p c : Int) : Nat → Int × Int
  | 0 => (0, 1)
  | k + 1 => ((ch p c k).2, (c * (ch p c k).2 - (ch p c k).1) % p)
def cheb (p c : Int) (k : Nat) : Int := (ch p c k).2
theorem cheb_zero (p c : Int) : cheb p c 0 = 1 := rfl
theorem cheb_one (p c : Int) (h0 : 0 ≤ c) (h1 : c < p) : cheb p c 1 = c := by
  show (c * 1 - 0) % p = c
  rw [Int.mul_one, Int.sub_zero]; exact Int.emod_eq_of_lt h0 h1
theorem cheb_next (p c : Int) (k : Nat) : cheb p c (k + 2) = (c * cheb p c (k + 1) - cheb p c k) % p := rfl
theorem cheb_range (p c : Int) (hp : 2 ≤ p) (k : Nat) : 0 ≤ cheb p c k ∧ cheb p c k < p := by
  cases k with
  | zero => exact ⟨by rw [cheb_zero]; omega, by rw [cheb_zero]; omega⟩
  | succ k => exact ⟨Int.emod_nonneg _ (by omega), Int.emod_lt_of_pos _ (by omega)⟩
theorem lmod (p x : Int) (hp : 0 < p) : (x.tmod p + p).tmod p = x % p := by
  have h1 : x.tmod p = x - p * x.tdiv p := Int.tmod_def x p
  have h2 : -p < x.tmod p := by
    have := Int.lt_tmod_of_pos x hp
    omega
  rw [Int.tmod_eq_emod_of_nonneg (by omega), h1, Int.add_emod_right, Int.sub_mul_emod_self_left]
/-- The first zero from k on. -/
def zf (p c : Int) : Nat → Nat → Nat
  | 0, k => k
  | f + 1, k => if cheb p c k = 0 then k else zf p c f (k + 1)
theorem zf_le (p c : Int) : ∀ f k, zf p c f k ≤ k + f := by
  intro f
  induction f with
  | zero => intro k; exact Nat.le_refl _
  | succ f ih => intro k; unfold zf; split; omega; have := ih (k + 1); omega
theorem zf_ge (p c : Int) : ∀ f k, k ≤ zf p c f k := by
  intro f
  induction f with
  | zero => intro k; exact Nat.le_refl _
  | succ f ih => intro k; unfold zf; split; omega; have := ih (k + 1); omega
theorem zf_before (p c : Int) : ∀ f k j, k ≤ j → j < zf p c f k → cheb p c j ≠ 0 := by
  intro f
  induction f with
  | zero => intro k j h1 h2; unfold zf at h2; omega
  | succ f ih =>
    intro k j h1 h2
    unfold zf at h2
    split at h2
    · omega
    · by_cases e : j = k
      · subst e; assumption
      · exact ih (k + 1) j (by omega) h2
theorem zf_zero (p c : Int) : ∀ f k, (∃ j, k ≤ j ∧ j < k + f ∧ cheb p c j = 0) → cheb p c (zf p c f k) = 0 := by
  intro f
  induction f with
  | zero => rintro k ⟨j, h1, h2, _⟩; omega
  | succ f ih =>
    rintro k ⟨j, h1, h2, h3⟩
    unfold zf
    split
    · assumption
    · refine ih (k + 1) ⟨j, ?_, by omega, h3⟩
      by_cases e : j = k
      · subst e; contradiction
      · omega
/-- The first zero. -/
def fz (p c : Int) : Nat := zf p c 97 1
/-- Whether a zero is met, in natural numbers: a is the number before b. -/
def meets (p c : Nat) : Nat → Nat → Nat → Bool
  | 0, _, _ => false
  | f + 1, a, b => b == 0 || meets p c f b ((c * b + (p - a)) % p)
theorem meets_cheb (p c : Nat) (hp : 2 ≤ p) : ∀ (f k a b : Nat), ((a : Int) = (ch p c k).1 ∧ (b : Int) = (ch p c k).2 ∧ a < p) → meets p c f a b = true → ∃ j, k ≤ j ∧ j < k + f ∧ cheb p c j = 0 := by
  intro f
  induction f with
  | zero => intro k a b _ h; simp [meets] at h
  | succ f ih =>
    intro k a b ⟨ha, hb, hap⟩ h
    unfold meets at h
    by_cases e : b = 0
    · exact ⟨k, Nat.le_refl _, by omega, by show (ch p c k).2 = 0; rw [← hb, e]; rfl⟩
    · rw [show (b == 0) = false by simpa using e, Bool.false_or] at h
      have hr := cheb_range p c (by omega) k
      have hbp : b < p := by have : (b : Int) < p := by rw [hb]; exact hr.2
                             omega
      have key : ((((c * b + (p - a)) % p : Nat)) : Int) = (ch p c (k + 1)).2 := by
        show _ = ((c : Int) * (ch p c k).2 - (ch p c k).1) % (p : Int)
        rw [← ha, ← hb, Int.natCast_emod, Int.natCast_add, Int.natCast_mul, Int.ofNat_sub (Nat.le_of_lt hap)]
        rw [show (c : Int) * b + (p - a) = (c * b - a) + p by omega, Int.add_emod_right]
      obtain ⟨j, h1, h2, h3⟩ := ih (k + 1) b _ ⟨by show (b : Int) = (ch p c k).2; exact hb, key, hbp⟩ h
      exact ⟨j, by omega, by omega, h3⟩
def primeN (p : Nat) : Bool := (List.range p).all fun j => decide (j < 2) || (p % j != 0)
theorem primeB_nat (p : Nat) (h : primeB p = true) : 2 ≤ p ∧ p ≤ 97 ∧ primeN p = true := by
  unfold primeB at h
  rw [decide_eq_true_iff] at h
  obtain ⟨h1, h2, h3⟩ := h
  refine ⟨by omega, by omega, ?_⟩
  unfold primeN
  rw [List.all_eq_true]
  intro j hj
  rw [List.mem_range] at hj
  by_cases e : j < 2
  · simp [e]
  · have := h3 j (by simpa using hj) (by omega)
    rw [show (p : Int).tmod (j : Int) = ((p % j : Nat) : Int) from (Int.ofNat_tmod p j).symm] at this
    simp only [Bool.or_eq_true, decide_eq_true_eq, bne_iff_ne, ne_eq]
    right
    intro e0; rw [e0] at this; exact this rfl
def zerosB : Bool := (List.range 98).all fun p => !primeN p || (List.range p).all fun c => decide (p < 2) || meets p c 97 1 c
set_option maxRecDepth 1000000 in
theorem zerosB_true : zerosB = true := by decide +kernel
/-- Powers by a prime. -/
def pwN (p k : Nat) : Nat → Nat
  | 0 => 1
  | e + 1 => pwN p k e * k % p
def inversB : Bool := (List.range 98).all fun p => !primeN p || (List.range p).all fun c => decide (p < 2) || c == 0 || (c * pwN p c (p - 2)) % p == 1
set_option maxRecDepth 1000000 in
theorem inversB_true : inversB = true := by decide +kernel
theorem has_zero (p c : Int) (hp : primeB p = true) (h0 : 0 ≤ c) (h1 : c < p) : cheb p c (fz p c) = 0 ∧ 1 ≤ fz p c ∧ fz p c ≤ 97 := by
  obtain ⟨P, rfl⟩ : ∃ P : Nat, p = P := ⟨p.toNat, by unfold primeB at hp; rw [decide_eq_true_iff] at hp; omega⟩
  obtain ⟨C, rfl⟩ : ∃ C : Nat, c = C := ⟨c.toNat, by omega⟩
  obtain ⟨p2, p97, hP⟩ := primeB_nat P hp
  have hz := zerosB_true
  unfold zerosB at hz
  rw [List.all_eq_true] at hz
  have := hz P (List.mem_range.2 (by omega))
  rw [hP, Bool.not_true, Bool.false_or, List.all_eq_true] at this
  have := this C (List.mem_range.2 (by omega))
  rw [show decide (P < 2) = false by simpa using p2, Bool.false_or] at this
  obtain ⟨j, j1, j2, j3⟩ := meets_cheb P C p2 97 1 1 C ⟨rfl, by show _ = ((C : Int) * 1 - 0) % (P : Int); rw [Int.mul_one, Int.sub_zero]; exact (Int.emod_eq_of_lt (by omega) h1).symm, by omega⟩ this
  have hz0 := zf_zero P C 97 1 ⟨j, j1, j2, j3⟩
  have hge := zf_ge (P : Int) C 97 1
  have hle := zf_le (P : Int) C 97 1
  refine ⟨hz0, hge, ?_⟩
  unfold fz
  refine Decidable.byContradiction fun hn => ?_
  exact zf_before P C 97 1 j j1 (by omega) j3
theorem fz_before (p c : Int) (j : Nat) (h1 : 1 ≤ j) (h2 : j < fz p c) : cheb p c j ≠ 0 := zf_before p c 97 1 j h1 h2
end Go.Proofs.YtopenojociafaaaDoor
namespace Go.Proofs.YtopenojociafaaaDoor
theorem mul_emod_l (p a b : Int) : a % p * b % p = a * b % p := by rw [Int.mul_emod, Int.emod_emod, ← Int.mul_emod]
theorem mul_emod_r (p a b : Int) : a * (b % p) % p = a * b % p := by rw [Int.mul_emod, Int.emod_emod, ← Int.mul_emod]
/-- The product of the first k Chebyshev numbers. -/
def gpr (p c : Int) : Nat → Int
  | 0 => 1
  | k + 1 => gpr p c k * cheb p c (k + 1) % p
theorem gpr_range (p c : Int) (hp : 2 ≤ p) (k : Nat) : 0 ≤ gpr p c k ∧ gpr p c k < p := by
  cases k with
  | zero => show (0 : Int) ≤ 1 ∧ (1 : Int) < p; omega
  | succ k => exact ⟨Int.emod_nonneg _ (by omega), Int.emod_lt_of_pos _ (by omega)⟩
theorem gpr_step (p c : Int) (k : Nat) (o K : Int) (h : gpr p c (k + 1) * o % p = K) : gpr p c k * (o * cheb p c (k + 1) % p) % p = K := by
  rw [mul_emod_r, ← h, gpr, mul_emod_l]
  congr 1
  rw [Int.mul_assoc, Int.mul_comm o]
theorem gpr_end (p c : Int) (K : Nat) (o : Int) (ho : 0 ≤ o ∧ o < p) (h : gpr p c 0 * o % p = gpr p c K) : o = gpr p c K := by
  rw [← h]
  show o = 1 * o % p
  rw [Int.one_mul]; exact (Int.emod_eq_of_lt ho.1 ho.2).symm
/-- A power modulo p. -/
def pw (p k : Int) : Nat → Int
  | 0 => 1
  | e + 1 => pw p k e * k % p
theorem pw_nat (p k e : Nat) : ((pwN p k e : Nat) : Int) = pw p k e := by
  induction e with
  | zero => rfl
  | succ e ih => simp only [pwN, pw, Int.natCast_emod, Int.natCast_mul, ih]
theorem pw_range (p k : Int) (hp : 2 ≤ p) (e : Nat) : 0 ≤ pw p k e ∧ pw p k e < p := by
  cases e with
  | zero => show (0 : Int) ≤ 1 ∧ (1 : Int) < p; omega
  | succ e => exact ⟨Int.emod_nonneg _ (by omega), Int.emod_lt_of_pos _ (by omega)⟩
/-- The inverse modulo p. -/
def rcp (p x : Int) : Int := pw p x (p - 2).toNat
theorem rcp_mul (p x : Int) (hp : primeB p = true) (h0 : 1 ≤ x) (h1 : x < p) : x * rcp p x % p = 1 := by
  obtain ⟨P, rfl⟩ : ∃ P : Nat, p = P := ⟨p.toNat, by unfold primeB at hp; rw [decide_eq_true_iff] at hp; omega⟩
  obtain ⟨X, rfl⟩ : ∃ X : Nat, x = X := ⟨x.toNat, by omega⟩
  obtain ⟨p2, p97, hP⟩ := primeB_nat P hp
  have hz := inversB_true
  unfold inversB at hz
  rw [List.all_eq_true] at hz
  have := hz P (List.mem_range.2 (by omega))
  rw [hP, Bool.not_true, Bool.false_or, List.all_eq_true] at this
  have := this X (List.mem_range.2 (by omega))
  rw [show decide (P < 2) = false by simpa using p2, show (X == 0) = false by simp; omega, Bool.false_or, Bool.false_or] at this
  have h := eq_of_beq this
  unfold rcp
  rw [show ((P : Int) - 2).toNat = P - 2 by omega, ← pw_nat]
  have h2 : (((X * pwN P X (P - 2)) % P : Nat) : Int) = 1 := by rw [h]; rfl
  rw [Int.natCast_emod, Int.natCast_mul] at h2
  exact h2
theorem rcp_one (p x y : Int) (hp : primeB p = true) (h0 : 1 ≤ x) (h1 : x < p) (hy0 : 0 ≤ y) (hy1 : y < p) (h : y * x % p = 1) : y = rcp p x := by
  have hr := rcp_mul p x hp h0 h1
  have h2 := pw_range p x (by unfold primeB at hp; rw [decide_eq_true_iff] at hp; omega) (p - 2).toNat
  have e1 : y * x * rcp p x % p = rcp p x := by
    rw [← mul_emod_l, h, Int.one_mul]; exact Int.emod_eq_of_lt h2.1 h2.2
  have e2 : y * x * rcp p x % p = y := by
    rw [Int.mul_assoc, ← mul_emod_r, hr, Int.mul_one]; exact Int.emod_eq_of_lt hy0 hy1
  exact e2.symm.trans e1
theorem rcp_pos (p x : Int) (hp : primeB p = true) (h0 : 1 ≤ x) (h1 : x < p) : 1 ≤ rcp p x ∧ rcp p x < p := by
  have hr := rcp_mul p x hp h0 h1
  have h2 := pw_range p x (by unfold primeB at hp; rw [decide_eq_true_iff] at hp; omega) (p - 2).toNat
  refine ⟨?_, h2.2⟩
  have : rcp p x ≠ 0 := by
    intro e; rw [e, Int.mul_zero, Int.zero_emod] at hr; omega
  have h3 : 0 ≤ rcp p x := h2.1
  omega
/-- No divisors of zero. -/
theorem mul_ne (p a b : Int) (hp : primeB p = true) (a0 : 1 ≤ a) (a1 : a < p) (b0 : 1 ≤ b) (b1 : b < p) : 1 ≤ a * b % p := by
  have p2 : 2 ≤ p := by unfold primeB at hp; rw [decide_eq_true_iff] at hp; omega
  have h0 : 0 ≤ a * b % p := Int.emod_nonneg _ (by omega)
  refine Decidable.byContradiction fun hn => ?_
  have e : a * b % p = 0 := by omega
  have hr := rcp_mul p a hp a0 a1
  have : b = 0 := by
    have e2 : rcp p a * (a * b) % p = b := by
      rw [← Int.mul_assoc, Int.mul_comm (rcp p a), ← mul_emod_l, hr, Int.one_mul]
      exact Int.emod_eq_of_lt (by omega) b1
    rw [← e2, ← mul_emod_r, e, Int.mul_zero, Int.zero_emod]
  omega
theorem gpr_pos (p c : Int) (hp : primeB p = true) (k : Nat) (h : k < fz p c) : 1 ≤ gpr p c k ∧ gpr p c k < p := by
  have p2 : 2 ≤ p := by unfold primeB at hp; rw [decide_eq_true_iff] at hp; omega
  induction k with
  | zero => show (1 : Int) ≤ 1 ∧ (1 : Int) < p; omega
  | succ k ih =>
    have := ih (by omega)
    have hc := cheb_range p c p2 (k + 1)
    have hn := fz_before p c (k + 1) (by omega) h
    exact ⟨mul_ne p _ _ hp this.1 this.2 (by omega) hc.2, Int.emod_lt_of_pos _ (by omega)⟩
/-- Divided one after the other, or by the product. -/
theorem theta_eq (p t a b c : Int) (hp : primeB p = true) (a0 : 1 ≤ a) (a1 : a < p) (b0 : 1 ≤ b) (b1 : b < p) (c0 : 1 ≤ c) (c1 : c < p) :
    t * rcp p a % p * rcp p b % p * rcp p c % p = t * rcp p (a * b % p * c % p) % p := by
  have p2 : 2 ≤ p := by unfold primeB at hp; rw [decide_eq_true_iff] at hp; omega
  have hab := mul_ne p a b hp a0 a1 b0 b1
  have hab2 : a * b % p < p := Int.emod_lt_of_pos _ (by omega)
  have habc := mul_ne p _ c hp hab hab2 c0 c1
  have habc2 : a * b % p * c % p < p := Int.emod_lt_of_pos _ (by omega)
  have ra := rcp_mul p a hp a0 a1
  have rb := rcp_mul p b hp b0 b1
  have rc := rcp_mul p c hp c0 c1
  have key : (rcp p a * rcp p b * rcp p c) % p = rcp p (a * b % p * c % p) := by
    refine rcp_one p _ _ hp habc habc2 (Int.emod_nonneg _ (by omega)) (Int.emod_lt_of_pos _ (by omega)) ?_
    rw [mul_emod_l, mul_emod_r]
    rw [← Int.mul_assoc, ← mul_emod_l, mul_emod_r, mul_emod_l]
    have : rcp p a * rcp p b * rcp p c * (a * b) * c = (a * rcp p a) * ((b * rcp p b) * (c * rcp p c)) := by
      simp only [Int.mul_assoc, Int.mul_comm, Int.mul_left_comm]
    rw [this, ← mul_emod_l, ra, Int.one_mul, ← mul_emod_l, rb, Int.one_mul, rc]
  rw [← key, mul_emod_r]
  rw [mul_emod_l p (t * rcp p a) (rcp p b), mul_emod_l]
  congr 1
  simp only [Int.mul_assoc]
end Go.Proofs.YtopenojociafaaaDoor
namespace Go.Proofs.YtopenojociafaaaDoor
open Go.RowKit
set_option linter.unusedVariables false
theorem bnd_mul (p a b x : Int) (hp : 2 ≤ p) (hp2 : p ≤ 97) (a0 : 0 ≤ a) (a1 : a < p) (b0 : 0 ≤ b) (b1 : b < p) : 0 ≤ a * b ∧ a * b ≤ 9409 := by
  refine ⟨Int.mul_nonneg a0 b0, ?_⟩
  have h1 : a * b ≤ 97 * b := Int.mul_le_mul_of_nonneg_right (by omega) b0
  omega
set_option maxRecDepth 100000 in
theorem remI_any (p x : Int) (w : World) (hp : 2 ≤ p) (hp2 : p ≤ 97) (h0 : -1000000000000 ≤ x) (h1 : x ≤ 1000000000000) :
    Calls Tryd.prog 37 #[.int .i64 p, .int .i64 x] w fun e w' => e = .returned (.int .i64 (x % p)) ∧ w = w' := by
  have hl := Lib.hid (lmod p x (by omega))
  have h2 : -p < x.tmod p := by
    have := Int.lt_tmod_of_pos x (show 0 < p by omega); omega
  have h3 : x.tmod p < p := Int.tmod_lt_of_pos x (by omega)
  have e0 : (p == 0) = false := by simp; omega
  have e1 : IntKind.i64.wrap (x.tmod p) = x.tmod p := IntWalk.i64_in _ (by omega)
  have e2 : IntKind.i64.wrap (x.tmod p + p) = x.tmod p + p := IntWalk.i64_in _ (by omega)
  rw [← hl.out]
  generalize hy : x.tmod p = y at *
  have e3 : IntKind.i64.wrap ((y + p).tmod p) = (y + p).tmod p := by
    rw [Int.tmod_eq_emod_of_nonneg (by omega)]
    have := Int.emod_nonneg (y + p) (show p ≠ 0 by omega)
    have := Int.emod_lt_of_pos (y + p) (show 0 < p by omega)
    exact IntWalk.i64_in _ (by omega)
  go_enter Tryd.func37, Tryd.ntmps37
  go_wp2
  go_ret
  refine ⟨?_, rfl⟩
  show Ending.returned (.int .i64 ((y + p) % p)) = _
  rw [Int.tmod_eq_emod_of_nonneg (by omega)]
set_option maxRecDepth 100000 in
theorem modS_any (p x : Int) (w : World) (hp : 2 ≤ p) (hp2 : p ≤ 97) (h0 : -1000000000000 ≤ x) (h1 : x ≤ 1000000000000) :
    Calls Tryd.prog 60 #[.int .i64 p, .int .i64 x] w fun e w' => e = .returned (.int .i64 (x % p)) ∧ w = w' := by
  have hl := Lib.hid (lmod p x (by omega))
  have h2 : -p < x.tmod p := by
    have := Int.lt_tmod_of_pos x (show 0 < p by omega); omega
  have h3 : x.tmod p < p := Int.tmod_lt_of_pos x (by omega)
  have e0 : (p == 0) = false := by simp; omega
  have e1 : IntKind.i64.wrap (x.tmod p) = x.tmod p := IntWalk.i64_in _ (by omega)
  have e2 : IntKind.i64.wrap (x.tmod p + p) = x.tmod p + p := IntWalk.i64_in _ (by omega)
  rw [← hl.out]
  generalize hy : x.tmod p = y at *
  have e3 : IntKind.i64.wrap ((y + p).tmod p) = (y + p).tmod p := by
    rw [Int.tmod_eq_emod_of_nonneg (by omega)]
    have := Int.emod_nonneg (y + p) (show p ≠ 0 by omega)
    have := Int.emod_lt_of_pos (y + p) (show 0 < p by omega)
    exact IntWalk.i64_in _ (by omega)
  go_enter Tryd.func60, Tryd.ntmps60
  go_wp2
  go_ret
  refine ⟨?_, rfl⟩
  show Ending.returned (.int .i64 ((y + p) % p)) = _
  rw [Int.tmod_eq_emod_of_nonneg (by omega)]
theorem primeB_two {p : Int} (h : primeB p = true) : 2 ≤ p ∧ p ≤ 97 := by
  unfold primeB at h; rw [decide_eq_true_iff] at h; exact ⟨h.1, h.2.1⟩
set_option maxRecDepth 100000 in
theorem powI_any (p k : Int) (n : Nat) (w : World) (hp : 2 ≤ p) (hp2 : p ≤ 97) (hk0 : 0 ≤ k) (hk1 : k < p) (hn : n ≤ 1000) :
    Calls Tryd.prog 27 #[.int .i64 p, .int .i64 k, .int .i64 n] w fun e w' => e = .returned (.int .i64 (pw p k n)) ∧ w = w' := by
  have e0 : (p == 0) = false := by simp; omega
  have hr := Lib.hid (pw_range p k hp)
  go_enter Tryd.func27, Tryd.ntmps27
  go_wp2
  go_loopw [7, 9] (fun v i wr => ∃ j : Nat, j ≤ n ∧ i = .int .i64 j ∧ v = .int .i64 (pw p k j) ∧ wr = w) (fun _ i _ => ((n : Int) - intOf i).toNat)
  case atStart => exact ⟨0, by omega, rfl, rfl, rfl⟩
  case round =>
    obtain ⟨j, hj, rfl, rfl, rfl⟩ := hrel
    by_cases hlt : j < n
    · have r := hr.out j
      have m1 := bnd_mul p (pw p k j) k 0 hp hp2 r.1 r.2 hk0 hk1
      have hx : Hid (pw p k (j + 1) = pw p k j * k % p) := Lib.hid rfl
      generalize pw p k j = x at *
      go_wp2
      go_roundw
      case rel => exact ⟨j + 1, by omega, by go_num, by rw [hx.out], trivial⟩
      case measure => simp [intOf]; omega
    · obtain rfl : j = n := by omega
      go_wp2
      go_ret
      exact ⟨rfl, rfl⟩
set_option maxRecDepth 100000 in
theorem rcpI_any (p x : Int) (w : World) (hp : 2 ≤ p) (hp2 : p ≤ 97) (hk0 : 0 ≤ x) (hk1 : x < p) :
    Calls Tryd.prog 62 #[.int .i64 p, .int .i64 x] w fun e w' => e = .returned (.int .i64 (rcp p x)) ∧ w = w' := by
  unfold rcp
  obtain ⟨n, hn⟩ : ∃ n : Nat, p - 2 = n := ⟨(p - 2).toNat, by omega⟩
  rw [hn, Int.toNat_natCast]
  have hpw := Lib.hid (powI_any p x n w hp hp2 hk0 hk1 (by omega))
  rw [← hn] at hpw
  clear hn
  go_enter Tryd.func62, Tryd.ntmps62
  go_wp2_with (first
    | (go_at_call 27; ((with_reducible refine (hpw.out).mono ?_); rintro e w1 ⟨rfl, rfl⟩)))
  go_ret
  exact ⟨rfl, rfl⟩
set_option maxRecDepth 100000 in
theorem invS_any (p x : Int) (w : World) (hpr : primeB p = true) (hx0 : 1 ≤ x) (hx1 : x < p) :
    Calls Tryd.prog 82 #[.int .i64 p, .int .i64 x] w fun e w' => e = .returned (.int .i64 (rcp p x)) ∧ w = w' := by
  obtain ⟨hp, hp2⟩ := primeB_two hpr
  have hr := rcp_pos p x hpr hx0 hx1
  have hrm := rcp_mul p x hpr hx0 hx1
  have hone := Lib.hid (fun y h0 h1 h => rcp_one p x y hpr hx0 hx1 h0 h1 h)
  have hmod0 := fun w1 => modS_any p x w1 hp hp2 (by omega) (by omega)
  rw [Int.emod_eq_of_lt (by omega) hx1] at hmod0
  have hmod := Lib.hid hmod0
  have e0 : (p == 0) = false := by simp; omega
  obtain ⟨R, hR⟩ : ∃ R : Nat, rcp p x = R := ⟨(rcp p x).toNat, by omega⟩
  rw [hR] at hr hrm ⊢
  rw [hR] at hone
  have hrm' := Lib.hid (show (R : Int) * x % p = 1 by rw [Int.mul_comm]; exact hrm)
  clear hR hpr hmod0 hrm
  go_enter Tryd.func82, Tryd.ntmps82
  go_wp2
  go_loopw [5] (fun i wr => ∃ k : Nat, 1 ≤ k ∧ k ≤ R ∧ i = .int .i64 k ∧ wr = w) (fun i _ => ((R : Int) + 1 - intOf i).toNat)
  case atStart => exact ⟨1, by omega, by omega, rfl, rfl⟩
  case round =>
    obtain ⟨k, hk1, hk2, rfl, rfl⟩ := hrel
    have m1 := bnd_mul p k x 0 hp hp2 (by omega) (by omega) (by omega) hx1
    by_cases hlt : k < R
    · have hne : ¬ ((k : Int) * x % p = 1) := by
        intro h
        have := hone.out k (by omega) (by omega) h
        omega
      have b : ((k : Int) * x % p == 1) = false := by simpa using hne
      have kp : (k : Int) < p := by omega
      clear hne
      go_wp2_with (first
        | (go_at_call 60; ((with_reducible refine (hmod.out _).mono ?_); rintro e w3 ⟨rfl, rfl⟩)))
      go_roundw
      case rel => exact ⟨k + 1, by omega, by omega, by go_num, trivial⟩
      case measure => simp [intOf]; omega
    · obtain rfl : k = R := by omega
      have b : ((k : Int) * x % p == 1) = true := by simpa using hrm'.out
      have kp : (k : Int) < p := by omega
      go_wp2_with (first
        | (go_at_call 60; ((with_reducible refine (hmod.out _).mono ?_); rintro e w3 ⟨rfl, rfl⟩)))
      go_ret
      exact ⟨rfl, rfl⟩
/-- A number that is an int64. -/
theorem of_wf {a : Int} (h : (Lit.int IntKind.i64 a).wf = true) : -9223372036854775808 ≤ a ∧ a ≤ 9223372036854775807 := by
  have h' : (decide (IntKind.i64.min ≤ a) && decide (a ≤ IntKind.i64.max)) = true := h
  rw [Bool.and_eq_true, decide_eq_true_iff, decide_eq_true_iff, show IntKind.i64.min = -9223372036854775808 by decide, show IntKind.i64.max = 9223372036854775807 by decide] at h'
  exact h'
end Go.Proofs.YtopenojociafaaaDoor
namespace Go.Proofs.YtopenojociafaaaDoor
open Go.RowKit
set_option linter.unusedVariables false
set_option linter.unusedSimpArgs false
/-- The place of the first number other than 0. -/
def ff : List Int → Nat
  | [] => 0
  | x :: xs => if x = 0 then ff xs + 1 else 0
theorem ff_le (r : List Int) : ff r ≤ r.length := by
  induction r with
  | nil => simp [ff]
  | cons x xs ih => unfold ff; split <;> simp <;> omega
theorem ff_zero (r : List Int) : ∀ j, j < ff r → r.getD j 0 = 0 := by
  induction r with
  | nil => intro j h; simp [ff] at h
  | cons x xs ih =>
    intro j h
    unfold ff at h
    split at h
    · rename_i hx
      cases j with
      | zero => simpa using hx
      | succ j => simpa using ih j (by omega)
    · omega
theorem ff_at (r : List Int) (h : ff r < r.length) : r.getD (ff r) 0 ≠ 0 := by
  induction r with
  | nil => simp [ff] at h
  | cons x xs ih =>
    unfold ff at h ⊢
    split
    · rename_i hx
      rw [if_pos hx] at h
      simpa using ih (by simpa using h)
    · rename_i hx
      simpa using hx
theorem ff_ge (r : List Int) (c : Nat) (hc : c ≤ r.length) (h : ∀ j, j < c → r.getD j 0 = 0) : c ≤ ff r := by
  by_cases hx : c ≤ ff r
  · exact hx
  · have := ff_at r (by omega)
    exact absurd (h (ff r) (by omega)) this
/-- A row of a list. -/
def rw' (T : List (List Int)) (i : Nat) : List Int := T.getD i []
/-- The least place's first row, among the first k. -/
def lst (T : List (List Int)) : Nat → Nat
  | 0 => 0
  | k + 1 => if ff (rw' T k) < ff (rw' T (lst T k)) then k else lst T k
theorem lst_lt (T : List (List Int)) (k : Nat) (hk : 0 < k) : lst T k < k := by
  induction k with
  | zero => omega
  | succ k ih =>
    unfold lst
    split
    · omega
    · by_cases h : 0 < k
      · have := ih h; omega
      · have : k = 0 := by omega
        subst this; simp [lst]
theorem lst_min (T : List (List Int)) (k : Nat) : ∀ i, i < k → ff (rw' T (lst T k)) ≤ ff (rw' T i) := by
  induction k with
  | zero => intro i h; omega
  | succ k ih =>
    intro i h
    unfold lst
    split
    · rename_i hlt
      by_cases e : i = k
      · subst e; exact Nat.le_refl _
      · have := ih i (by omega); omega
    · by_cases e : i = k
      · subst e; omega
      · exact ih i (by omega)
theorem lst_first (T : List (List Int)) (k : Nat) : ∀ i, i < lst T k → ff (rw' T (lst T k)) < ff (rw' T i) := by
  induction k with
  | zero => intro i h; simp [lst] at h
  | succ k ih =>
    intro i h
    unfold lst at h ⊢
    split
    · rename_i hlt
      rw [if_pos hlt] at h
      have := lst_min T k i h
      omega
    · rename_i hlt
      rw [if_neg hlt] at h
      exact ih i h
/-- The first row, from the place k on, with another number than 0 in the column c; f rows are left. -/
def bst (T : List (List Int)) (c : Nat) : Nat → Nat → Nat
  | 0, k => k
  | f + 1, k => if (rw' T k).getD c 0 = 0 then bst T c f (k + 1) else k
theorem bst_bd (T : List (List Int)) (c f k : Nat) : k ≤ bst T c f k ∧ bst T c f k ≤ k + f := by
  induction f generalizing k with
  | zero => simp [bst]
  | succ f ih => unfold bst; split; · have := ih (k + 1); omega
                 · omega
theorem bst_zero (T : List (List Int)) (c f k : Nat) : ∀ i, k ≤ i → i < bst T c f k → (rw' T i).getD c 0 = 0 := by
  induction f generalizing k with
  | zero => intro i h1 h2; simp [bst] at h2; omega
  | succ f ih =>
    intro i h1 h2
    unfold bst at h2
    split at h2
    · rename_i hz
      by_cases e : i = k
      · subst e; exact hz
      · exact ih (k + 1) i (by omega) h2
    · omega
theorem bst_at (T : List (List Int)) (c f k : Nat) (h : bst T c f k < k + f) : (rw' T (bst T c f k)).getD c 0 ≠ 0 := by
  induction f generalizing k with
  | zero => simp [bst] at h
  | succ f ih =>
    unfold bst at h ⊢
    split
    · rename_i hz
      rw [if_pos hz] at h
      exact ih (k + 1) (by omega)
    · rename_i hz; exact hz
/-- A row with a multiple of another one taken away. -/
def red (p : Int) (n c : Nat) (rc : Int) (own row : List Int) : List Int := (List.range n).map (fun j => (row.getD j 0 - (row.getD c 0 * rc % p) * own.getD j 0) % p)
theorem red_len (p : Int) (n c : Nat) (rc : Int) (own row : List Int) : (red p n c rc own row).length = n := by simp [red]
theorem red_get (p : Int) (n c : Nat) (rc : Int) (own row : List Int) (j : Nat) (h : j < n) : (red p n c rc own row).getD j 0 = (row.getD j 0 - (row.getD c 0 * rc % p) * own.getD j 0) % p := by
  simp [red, List.getD_eq_getElem?_getD, h]
/-- The rows behind the first, once the row b is exchanged with it and taken away from them. -/
def nxtR (p : Int) (n c b : Nat) (T : List (List Int)) : List (List Int) := ((T.set b (rw' T 0)).drop 1).map (red p n c (rcp p ((rw' T b).getD c 0)) (rw' T b))
theorem nxtR_len (p : Int) (n c b : Nat) (T : List (List Int)) : (nxtR p n c b T).length = T.length - 1 := by simp [nxtR]
theorem nxtR_get (p : Int) (n c b : Nat) (T : List (List Int)) (i : Nat) (hi : i + 1 < T.length) : rw' (nxtR p n c b T) i = red p n c (rcp p ((rw' T b).getD c 0)) (rw' T b) (if i + 1 = b then rw' T 0 else rw' T (i + 1)) := by
  show (nxtR p n c b T).getD i [] = _
  unfold nxtR
  rw [List.getD_eq_getElem?_getD, List.getElem?_map, List.getElem?_drop, Nat.add_comm 1 i, List.getElem?_set]
  by_cases h : i + 1 = b
  · subst h
    rw [if_pos rfl, if_pos hi, if_pos rfl]; rfl
  · rw [if_neg (fun e => h e.symm), if_neg h, List.getElem?_eq_getElem hi]
    show red _ _ _ _ _ T[i + 1] = _
    congr 1
    show T[i + 1] = T.getD (i + 1) []
    rw [List.getD_eq_getElem?_getD, List.getElem?_eq_getElem hi]; rfl
/-- All rows have n numbers modulo p, and none in the first c columns but 0. -/
structure RowsOk (p : Int) (n c : Nat) (T : List (List Int)) : Prop where
  len : ∀ i, i < T.length → (rw' T i).length = n
  bd : ∀ i j, i < T.length → j < n → 0 ≤ (rw' T i).getD j 0 ∧ (rw' T i).getD j 0 < p
  zr : ∀ i j, i < T.length → j < c → (rw' T i).getD j 0 = 0
theorem next_ok {p : Int} {n c b : Nat} {T : List (List Int)} (hp : primeB p = true) (h : RowsOk p n c T) (hb : b < T.length) (hc : c < n) (hv : (rw' T b).getD c 0 ≠ 0) : RowsOk p n (c + 1) (nxtR p n c b T) := by
  obtain ⟨p2, p97⟩ := primeB_two hp
  have v := h.bd b c hb hc
  have hm := rcp_mul p ((rw' T b).getD c 0) hp (by omega) v.2
  refine ⟨fun i hi => ?_, fun i j hi hj => ?_, fun i j hi hj => ?_⟩
  · rw [nxtR_len] at hi
    rw [nxtR_get _ _ _ _ _ _ (by omega), red_len]
  · rw [nxtR_len] at hi
    rw [nxtR_get _ _ _ _ _ _ (by omega), red_get _ _ _ _ _ _ _ hj]
    exact ⟨Int.emod_nonneg _ (by omega), Int.emod_lt_of_pos _ (by omega)⟩
  · rw [nxtR_len] at hi
    rw [nxtR_get _ _ _ _ _ _ (by omega), red_get _ _ _ _ _ _ _ (by omega)]
    generalize hrow : (if i + 1 = b then rw' T 0 else rw' T (i + 1)) = row
    have hz : ∀ j, j < c → row.getD j 0 = 0 := fun j hj => by
      rw [← hrow]
      split
      · exact h.zr 0 j (by omega) hj
      · exact h.zr (i + 1) j (by omega) hj
    by_cases e : j = c
    · subst e
      generalize (rw' T b).getD j 0 = o at *
      generalize row.getD j 0 = x at *
      generalize rcp p o = rc at *
      have e1 : (x * rc % p * o) % p = x % p := by
        rw [Int.mul_emod, Int.emod_emod, ← Int.mul_emod, Int.mul_assoc, Int.mul_emod, Int.mul_comm rc o, hm]
        rw [Int.mul_one, Int.emod_emod]
      rw [Int.sub_emod, e1, Int.sub_self, Int.zero_emod]
    · rw [hz j (by omega), h.zr b j hb (by omega)]
      simp
theorem up_ok {p : Int} {n c : Nat} {T : List (List Int)} (h : RowsOk p n c T) (hz : ∀ i, i < T.length → (rw' T i).getD c 0 = 0) : RowsOk p n (c + 1) T :=
  ⟨h.len, h.bd, fun i j hi hj => by
    by_cases e : j = c
    · subst e; exact hz i hi
    · exact h.zr i j hi (by omega)⟩
theorem less_ok {p : Int} {n c c' : Nat} {T : List (List Int)} (h : RowsOk p n c T) (hz : ∀ i j, i < T.length → j < c' → (rw' T i).getD j 0 = 0) : RowsOk p n c' T := ⟨h.len, h.bd, hz⟩
/-- The number that a step multiplies with. -/
def stF (p : Int) (b : Nat) (fct v : Int) : Int := (if b = 0 then fct else -fct) * v % p
/-- The program's determinant, and its rank. -/
def resI (p : Int) (n : Nat) : Nat → List (List Int) → Int → Int
  | 0, _, fct => fct
  | k + 1, T, fct => if ff (rw' T (lst T (k + 1))) = n then 0 else resI p n k (nxtR p n (ff (rw' T (lst T (k + 1)))) (lst T (k + 1)) T) (stF p (lst T (k + 1)) fct ((rw' T (lst T (k + 1))).getD (ff (rw' T (lst T (k + 1)))) 0))
def rkI (p : Int) (n : Nat) : Nat → List (List Int) → Nat → Nat
  | 0, _, r => r
  | k + 1, T, r => if ff (rw' T (lst T (k + 1))) = n then r else rkI p n k (nxtR p n (ff (rw' T (lst T (k + 1)))) (lst T (k + 1)) T) (r + 1)
/-- The model's, with f columns left. -/
def resM (p : Int) (n : Nat) : Nat → List (List Int) → Int → Int
  | 0, _, det => det
  | f + 1, T, det => if bst T (n - (f + 1)) T.length 0 = T.length then resM p n f T 0 else resM p n f (nxtR p n (n - (f + 1)) (bst T (n - (f + 1)) T.length 0) T) (stF p (bst T (n - (f + 1)) T.length 0) det ((rw' T (bst T (n - (f + 1)) T.length 0)).getD (n - (f + 1)) 0))
def rkM (p : Int) (n : Nat) : Nat → List (List Int) → Nat → Nat
  | 0, _, r => r
  | f + 1, T, r => if bst T (n - (f + 1)) T.length 0 = T.length then rkM p n f T r else rkM p n f (nxtR p n (n - (f + 1)) (bst T (n - (f + 1)) T.length 0) T) (r + 1)
theorem pick_same {p : Int} {n c : Nat} {T : List (List Int)} (h : RowsOk p n c T) (hc : c < n) (hb : bst T c T.length 0 < T.length) : lst T T.length = bst T c T.length 0 ∧ ff (rw' T (lst T T.length)) = c := by
  have hv := bst_at T c T.length 0 (by omega)
  have h0 : 0 < T.length := by omega
  have hl := lst_lt T T.length h0
  have ge : ∀ i, i < T.length → c ≤ ff (rw' T i) := fun i hi => ff_ge _ c (by rw [h.len i hi]; omega) (fun j hj => h.zr i j hi hj)
  have hbf : ff (rw' T (bst T c T.length 0)) = c := by
    have h1 := ge _ hb
    by_cases e : c < ff (rw' T (bst T c T.length 0))
    · exact absurd (ff_zero _ c e) hv
    · omega
  have hm := lst_min T T.length _ hb
  have hg := ge _ hl
  have hfc : ff (rw' T (lst T T.length)) = c := by omega
  refine ⟨?_, hfc⟩
  rcases Nat.lt_trichotomy (lst T T.length) (bst T c T.length 0) with hlt | he | hgt
  · have hz := bst_zero T c T.length 0 _ (Nat.zero_le _) hlt
    have := ff_at (rw' T (lst T T.length)) (by rw [hfc, h.len _ hl]; exact hc)
    rw [hfc] at this
    exact absurd hz this
  · exact he
  · have := lst_first T T.length _ hgt
    omega
theorem all_zero {c : Nat} {T : List (List Int)} (h : bst T c T.length 0 = T.length) : ∀ i, i < T.length → (rw' T i).getD c 0 = 0 := fun i hi => bst_zero T c T.length 0 i (Nat.zero_le _) (by omega)
theorem low_zero {p : Int} {n c : Nat} {T : List (List Int)} (h : RowsOk p n c T) : ∀ i j, i < T.length → j < ff (rw' T (lst T T.length)) → (rw' T i).getD j 0 = 0 := fun i j hi hj => ff_zero _ j (Nat.lt_of_lt_of_le hj (lst_min T T.length i hi))
/-- With more rows than columns are left the determinant is 0. -/
theorem resI_zero {p : Int} {n : Nat} (hp : primeB p = true) (k : Nat) : ∀ (c : Nat) (T : List (List Int)) (fct : Int), T.length = k → c ≤ n → n - c < k → RowsOk p n c T → resI p n k T fct = 0 := by
  induction k with
  | zero => intro c T fct _ _ h; omega
  | succ k ih =>
    intro c T fct hT hc hk h
    unfold resI
    rw [← hT]
    have hl := lst_lt T T.length (by omega)
    split
    · rfl
    · rename_i hne
      have hle := ff_le (rw' T (lst T T.length))
      rw [h.len _ hl] at hle
      have hge : c ≤ ff (rw' T (lst T T.length)) := ff_ge _ c (by rw [h.len _ hl]; exact hc) (fun j hj => h.zr _ j hl hj)
      have hv := ff_at (rw' T (lst T T.length)) (by rw [h.len _ hl]; omega)
      exact ih (ff (rw' T (lst T T.length)) + 1) _ _ (by rw [nxtR_len]; omega) (by omega) (by omega) (next_ok hp (less_ok h (low_zero h)) hl (by omega) hv)
theorem resM_zero {p : Int} {n : Nat} (f : Nat) : ∀ T, resM p n f T 0 = 0 := by
  induction f with
  | zero => intro T; rfl
  | succ f ih =>
    intro T
    unfold resM
    split
    · exact ih T
    · have : ∀ b v, stF p b 0 v = 0 := fun b v => by unfold stF; split <;> simp
      rw [this]; exact ih _
theorem res_same {p : Int} {n : Nat} (hp : primeB p = true) (f : Nat) : ∀ (T : List (List Int)) (d : Int), f ≤ n → T.length = f → RowsOk p n (n - f) T → resI p n f T d = resM p n f T d := by
  induction f with
  | zero => intro T d _ _ _; rfl
  | succ f ih =>
    intro T d hf hT h
    have hc : n - (f + 1) < n := by omega
    unfold resM
    by_cases hb : bst T (n - (f + 1)) T.length 0 = T.length
    · rw [if_pos hb, resM_zero]
      have h2 := up_ok h (all_zero hb)
      exact resI_zero hp (f + 1) (n - (f + 1) + 1) T d hT (by omega) (by omega) h2
    · have hb' : bst T (n - (f + 1)) T.length 0 < T.length := by have := bst_bd T (n - (f + 1)) T.length 0; omega
      obtain ⟨e1, e2⟩ := pick_same h hc hb'
      have hv := bst_at T (n - (f + 1)) T.length 0 (by omega)
      rw [if_neg hb]
      unfold resI
      rw [← hT, e2, e1, if_neg (by omega)]
      have hn := next_ok hp h hb' hc hv
      rw [hT] at hn ⊢
      exact ih _ _ (by omega) (by rw [nxtR_len]; omega) (by rw [show n - f = n - (f + 1) + 1 by omega]; exact hn)
end Go.Proofs.YtopenojociafaaaDoor
namespace Go.Proofs.YtopenojociafaaaDoor
section
variable {P : Program} {ops : Array Oper} {Q : Exit → Act → World → Prop}
/-- Where an operation lets go on, K; nothing else happens. -/
abbrev only (K : Act → World → Prop) : Exit → Act → World → Prop := Exit.then K fun _ _ _ => False
theorem wp_of_only {o : Oper} {a : Act} {w : World} {K K' : Act → World → Prop} (h : ∀ a w, K a w → K' a w) (hh : o.wp P a w K (only K)) : o.wp P a w K' Q := by
  unfold Oper.wp at *
  generalize (execOp a.eval o).run P w = r at *
  cases r with
  | ok n w' =>
    cases n <;> simp only [Oper.upon] at hh ⊢ <;>
      first
        | exact h _ _ hh
        | exact Calls.mono hh (fun e w'' he => by
            cases e <;> first | exact h _ _ he | exact (show False from he).elim | exact (show False by obtain ⟨_, _, x⟩ := he; exact x).elim)
        | exact Rows.mono hh (fun _ _ he => h _ _ he)
  | halt x w' => cases x <;> simp only [Oper.upon] at hh ⊢ <;> first | exact (show False from hh).elim | exact hh
theorem wpOp_of_list {i : Nat} {o : Oper} {a : Act} {w : World} {K K' : Act → World → Prop} (ho : ops[i]? = some o) (h : ∀ a w, K a w → K' a w) (hh : wpList P ops (only K) [o] a w) : wpOp P ops Q i K' a w := by
  unfold wpOp
  rw [ho]
  show if Region.wanted o (yielded ops a.tmps) = true then _ else _
  simp only [wpList] at hh
  split
  · rename_i hw
    rw [if_pos hw] at hh
    rcases hh with hh | ⟨_, _, _, x⟩
    · exact .inl (wp_of_only h hh)
    · exact (show False from x).elim
  · rename_i hw
    rw [if_neg hw] at hh
    exact h _ _ hh
/-- The operation waits for operation j. -/
def needs (o : Oper) (j : Nat) : Bool := o.after.any fun e => Region.binds .any e && e.on == j
/-- A property of each operation of a list, counted from k. -/
def AllOps (p : Nat → Oper → Prop) : Nat → List Oper → Prop
  | _, [] => True
  | k, o :: l => p k o ∧ AllOps p (k + 1) l
theorem AllOps.get {p : Nat → Oper → Prop} : ∀ (l : List Oper) (k i : Nat) (o : Oper), AllOps p k l → l[i]? = some o → p (k + i) o
  | [], _, _, _, _, h => by simp at h
  | x :: l, k, 0, o, h, e => by simp at e; subst e; exact h.1
  | x :: l, k, i + 1, o, h, e => by have := AllOps.get l (k + 1) i o h.2 (by simpa using e); rwa [Nat.add_assoc, Nat.add_comm 1 i] at this
theorem count_set {listed : Array Bool} {i : Nat} (hi : i < listed.size) (h : listed.getD i true = false) : (listed.setIfInBounds i true).toList.count false + 1 = listed.toList.count false := by
  obtain ⟨l⟩ := listed
  simp at hi h ⊢
  induction l generalizing i with
  | nil => simp at hi
  | cons b l ih =>
    cases i with
    | zero => simp at h; subst h; simp
    | succ i =>
      have := ih (i := i) (by simpa using hi) (by simpa using h)
      simp [List.count_cons]
      omega
/-- Operation j waits for operation i. -/
def waits (ops : Array Oper) (j i : Nat) : Bool := match ops[j]? with | some o => needs o i | none => false
theorem wpAny_facts (G : Act → World → Prop) (F : Nat → Act → World → Prop)
    (hs : ∀ i o, ops[i]? = some o → ∀ a w, G a w → (∀ j, needs o j = true → F j a w) → wpList P ops (only fun a' w' => G a' w' ∧ F i a' w' ∧ ∀ j, j ≠ i → waits ops j i = false → F j a w → F j a' w') [o] a w)
    (he : ∀ a w, G a w → (∀ i, i < ops.size → F i a w) → Q .normal a w) (hacyc : ∀ listed : Array Bool, listed.size = ops.size → Region.ready .any ops listed = [] → ∀ i, i < ops.size → listed.getD i false = true) :
    ∀ (fuel : Nat) (listed : Array Bool) (a : Act) (w : World), listed.size = ops.size → listed.toList.count false ≤ fuel → G a w → (∀ i, listed.getD i false = true → F i a w) →
      (∀ i j, listed.getD j false = true → waits ops j i = true → listed.getD i false = true) → wpAny P .any ops Q fuel listed a w := by
  intro fuel
  induction fuel with
  | zero =>
    intro listed a w hsz hc hG hF _
    have hr : Region.ready .any ops listed = [] := by
      cases hr : Region.ready .any ops listed with
      | nil => rfl
      | cons i l =>
        obtain ⟨h0, o, ho, _⟩ := mem_ready.1 (show i ∈ Region.ready .any ops listed by rw [hr]; simp)
        have hlt : i < ops.size := (Array.getElem?_eq_some_iff.1 ho).1
        have := count_set (by omega) h0
        omega
    exact ⟨hr, he _ _ hG fun i hi => hF i (hacyc listed hsz hr i hi)⟩
  | succ fuel ih =>
    intro listed a w hsz hc hG hF hcl
    refine ⟨fun hr => he _ _ hG fun i hi => hF i (hacyc listed hsz hr i hi), fun i hi => ?_⟩
    obtain ⟨h0, o, ho, hall⟩ := mem_ready.1 hi
    have hlt : i < ops.size := (Array.getElem?_eq_some_iff.1 ho).1
    have hcs := count_set (by omega) h0
    have hn0 : ∀ j, needs o j = true → listed.getD j false = true := by
      intro j hj
      unfold needs at hj
      obtain ⟨e, he', hb⟩ := Array.any_eq_true'.1 hj
      simp only [Bool.and_eq_true, beq_iff_eq] at hb
      have := hall e he' hb.1
      rwa [hb.2] at this
    refine wpOp_of_list ho ?_ (hs i o ho a w hG fun j hj => hF j (hn0 j hj))
    rintro a' w' ⟨hG', hFi, hFj⟩
    refine ih _ a' w' (by simp [hsz]) (by omega) hG' (fun j hj => ?_) fun k j hj hk => ?_
    · by_cases e : j = i
      · subst e; exact hFi
      · rw [getD_set_ne false (Ne.symm e)] at hj
        refine hFj j e ?_ (hF j hj)
        cases hw : waits ops j i with
        | false => rfl
        | true =>
          have := hcl i j hj hw
          have h1 : i < listed.size := by omega
          simp [h1] at h0 this
          rw [h0] at this
          cases this
    · by_cases e : j = i
      · subst e
        refine getD_set_true (hn0 k ?_)
        unfold waits at hk
        rwa [ho] at hk
      · rw [getD_set_ne false (Ne.symm e)] at hj
        exact getD_set_true (hcl k j hj hk)
/-- Each operation waits only for operations ahead of it. -/
def aheadB (l : List Oper) : Nat → Bool
  | k => match l with
    | [] => true
    | o :: l => o.after.all (fun e => !Region.binds .any e || decide (e.on < k)) && aheadB l (k + 1)
theorem ahead_get : ∀ (l : List Oper) (k i : Nat) (o : Oper), aheadB l k = true → l[i]? = some o → ∀ e ∈ o.after, Region.binds .any e = true → e.on < k + i
  | [], _, _, _, _, h => by simp at h
  | x :: l, k, 0, o, h, e => by
    simp at e; subst e
    simp only [aheadB, Bool.and_eq_true] at h
    intro e he hb
    have := Array.all_eq_true_iff_forall_mem.1 h.1 e he
    simpa [hb] using this
  | x :: l, k, i + 1, o, h, e => by
    simp only [aheadB, Bool.and_eq_true] at h
    have := ahead_get l (k + 1) i o h.2 (by simpa using e)
    intro e he hb; have := this e he hb; omega
theorem acyc {l : List Oper} (h : aheadB l 0 = true) (listed : Array Bool) (hsz : listed.size = l.toArray.size) (hr : Region.ready .any l.toArray listed = []) : ∀ i, i < l.toArray.size → listed.getD i false = true := by
  intro i
  induction i using Nat.strongRecOn with
  | _ i ih =>
    intro hi
    cases hb : listed.getD i false with
    | true => rfl
    | false =>
      exfalso
      have ho : l.toArray[i]? = some l.toArray[i] := Array.getElem?_eq_getElem hi
      have ho' : l[i]? = some l.toArray[i] := by rw [← ho]; simp
      have : i ∈ Region.ready .any l.toArray listed := by
        refine mem_ready.2 ⟨?_, _, ho, fun e he hbe => ?_⟩
        · have : i < listed.size := by omega
          simp [this] at hb ⊢; exact hb
        · have := ahead_get l 0 i _ h ho' e he hbe
          exact ih e.on (by omega) (by omega)
      rw [hr] at this
      cases this
theorem wp_region_facts {id : Nat} {a : Act} {w : World} {l : List Oper} (hm : P.follows .mixedOrders = true) (hah : aheadB l 0 = true) (G : Act → World → Prop) (F : Nat → Act → World → Prop)
    (h0 : G a { w with drawn := w.drawn + 1 })
    (hs : AllOps (fun i o => ∀ a w, G a w → (∀ j, needs o j = true → F j a w) → ∀ K : Act → World → Prop, (∀ a' w', G a' w' → F i a' w' → (∀ j, j ≠ i → waits l.toArray j i = false → F j a w → F j a' w') → K a' w') → wpList P l.toArray (only K) [o] a w) 0 l)
    (he : ∀ a w, G a w → (∀ i, i < l.length → F i a w) → Q .normal a w) : (Code.region id l.toArray true).wp P Q a w := by
  refine wp_region_any hm (wpAny_facts G F (fun i o ho => ?_) (fun a w hG hF => he a w hG fun i hi => hF i (by simpa using hi)) (acyc hah) _ _ _ _ (by simp) ?_ h0 (fun i hi => ?_) fun i j hj _ => ?_)
  · have := AllOps.get l 0 i o hs (by simpa using ho)
    rw [Nat.zero_add] at this
    exact fun a w hG hd => this a w hG hd _ fun a' w' h1 h2 h3 => ⟨h1, h2, h3⟩
  · simp
  · rw [Array.getD_eq_getD_getElem?, Array.getElem?_replicate] at hi
    split at hi <;> simp at hi
  · rw [Array.getD_eq_getD_getElem?, Array.getElem?_replicate] at hj
    split at hj <;> simp at hj
theorem AllOps.cons {p : Nat → Oper → Prop} {k : Nat} {o : Oper} {l : List Oper} (h : p k o) (h' : AllOps p (k + 1) l) : AllOps p k (o :: l) := ⟨h, h'⟩
theorem AllOps.nil {p : Nat → Oper → Prop} {k : Nat} : AllOps p k [] := trivial
theorem waits_no {p : Prop} {i j : Nat} (h : waits ops j i = false) (h' : waits ops j i = true) : p := by rw [h] at h'; cases h'
/-- What a slot holds. -/
def sl (a : Act) (i : Nat) : Value := a.tmps.toList.getD i undef
end
end Go.Proofs.YtopenojociafaaaDoor
namespace Go.Proofs.YtopenojociafaaaDoor
section
variable {P : Program} {ops : Array Oper} {md : Region.Mode} {S : World → Prop}
/-- No other way out. -/
abbrev QF : Exit → Act → World → Prop := fun _ _ _ => False
theorem noOut : ¬ LetsOut QF := fun ⟨_, _, h⟩ => h
theorem wp_of_QF {o : Oper} {a : Act} {w : World} {K : Act → World → Prop} {Q : Exit → Act → World → Prop} (hh : o.wp P a w K QF) : o.wp P a w K Q := by
  unfold Oper.wp at *
  generalize (execOp a.eval o).run P w = r at *
  cases r with
  | ok n w' =>
    cases n <;> simp only [Oper.upon] at hh ⊢ <;>
      first
        | exact hh
        | exact Calls.mono hh (fun e w'' he => by
            cases e <;> first | exact he | exact (show False from he).elim | exact (noOut he).elim)
        | exact Rows.mono hh (fun _ _ he => he)
  | halt x w' => cases x <;> simp only [Oper.upon] at hh ⊢ <;> first | exact (show False from hh).elim | exact hh
theorem wpOp_of_QF {i : Nat} {a : Act} {w : World} {K : Act → World → Prop} {Q : Exit → Act → World → Prop} (hh : wpOp P ops QF i K a w) : wpOp P ops Q i K a w := by
  unfold wpOp at *
  split
  · rename_i ho; simp only [ho] at hh; exact hh
  · rename_i o ho
    simp only [ho] at hh
    split
    · rename_i hw
      simp only [hw, if_true] at hh
      rcases hh with hh | ⟨_, h1⟩
      · exact .inl (wp_of_QF hh)
      · exact (noOut h1).elim
    · rename_i hw; simp only [hw] at hh; exact hh
/-- The operation gives v in every world that meets S. -/
def YieldsC (P : Program) (ops : Array Oper) (S : World → Prop) (o : Oper) (v : Value) (a : Act) : Prop := ∀ w, S w → YieldsAt P ops w o v a
theorem YieldsC.of_same {o : Oper} {v : Value} {a a' : Act} (hy : YieldsC P ops S o v a) (he : execOp a'.eval o = execOp a.eval o)
    (hw : Region.wanted o (yielded ops a'.tmps) = Region.wanted o (yielded ops a.tmps)) : YieldsC P ops S o v a' := fun w hS => (hy w hS).of_same he hw
theorem YieldsC.wpOp {i : Nat} {o : Oper} {v : Value} {a : Act} (hi : ops[i]? = some o) (hy : YieldsC P ops S o v a)
    {K : Act → World → Prop} {w : World} (hS : S w) (h : K (a.put o.dst v) w) : wpOp P ops QF i K a w := by
  have := hy w hS
  unfold Go.wpOp
  simp only [hi]
  rcases this with ⟨hw, hv | ⟨hv, rfl⟩ | ⟨f, args, hv, hc⟩⟩ | ⟨hw, rfl⟩
  · simp only [hw, if_true, Oper.wp, hv, Oper.upon]; exact .inl h
  · simp only [hw, if_true, Oper.wp, hv, Oper.upon]; exact .inl h
  · simp only [hw, if_true, Oper.wp, hv, Oper.upon]
    refine .inl (hc.mono ?_)
    rintro e w' ⟨rfl, rfl⟩
    exact h
  · simp only [hw, Bool.false_eq_true, if_false]; exact h
theorem wpOp_putC {j : Nat} {oi oj : Oper} {v : Value} (hj : ops[j]? = some oj) (hap : oi.apart ops oj = true)
    (hsi : ∀ cs b, oi.op ≠ .select cs b) (hsj : ∀ cs b, oj.op ≠ .select cs b) {K : Act → World → Prop} {a : Act} {w : World}
    (hy : YieldsC P ops S oi v a) (h : wpOp P ops QF j K (a.put oi.dst v) w) :
    wpOp P ops QF j (fun a' w' => YieldsC P ops S oi v a' ∧ K (a'.put oi.dst v) w') a w := by
  obtain ⟨h1, h2, h3⟩ := Oper.apart_spec hap
  have keep : ∀ (a : Act), YieldsC P ops S oi v a → ∀ u, YieldsC P ops S oi v (a.put oj.dst u) := fun a hy u =>
    hy.of_same (execOp_put oi hsi a oj.dst u h3) (wanted_put oi a oj.dst u h3)
  have keepD : ∀ d, YieldsC P ops S oi v { a with defers := d :: a.defers } := fun d => hy.of_same rfl rfl
  unfold wpOp at *
  simp only [hj] at *
  rw [wanted_put oj a oi.dst v h1] at h
  split
  · rename_i hw
    simp only [hw, if_true] at h
    rcases h with h | ⟨_, hlets⟩
    case inr => exact (noOut hlets).elim
    refine .inl ?_
    unfold Oper.wp at *
    rw [execOp_put oj hsj a oi.dst v h1] at h
    generalize (execOp a.eval oj).run P w = r at *
    cases r with
    | ok n w' =>
      cases n <;> simp only [Oper.upon] at h ⊢
      case value u => exact ⟨keep a hy u, by rw [← Act.put_comm a v u h2]; exact h⟩
      case skip => exact ⟨keep a hy _, by rw [← Act.put_comm a v undef h2]; exact h⟩
      case defer d =>
        refine ⟨keep _ (keepD d) _, ?_⟩
        rw [← Act.put_comm _ v undef h2, ← Act.put_defers]
        exact h
      case enter f args =>
        refine Calls.mono h fun e w'' he => ?_
        cases e with
        | returned u => exact ⟨keep a hy u, by rw [← Act.put_comm a v u h2]; exact he⟩
        | panicked c => exact (show False from he).elim
        | outgrown => exact (noOut he).elim
      case row row args => exact Rows.mono h fun u w'' he => ⟨keep a hy u, by rw [← Act.put_comm a v u h2]; exact he⟩
    | halt x w' =>
      cases x <;> simp only [Oper.upon] at h ⊢
      case panic u => exact (show False from h).elim
  · rename_i hw
    simp only [hw] at h
    exact ⟨keep a hy _, by rw [← Act.put_comm a v undef h2]; exact h⟩
/-- The first m operations, in whatever order; behind each of them S. -/
def wpAnyM (P : Program) (md : Region.Mode) (ops : Array Oper) (S : World → Prop) (m : Nat) (L : Array Bool → Act → World → Prop) : Nat → Array Bool → Act → World → Prop
  | 0, listed, a, w => L listed a w
  | f + 1, listed, a, w => Region.ready md ops listed ≠ [] ∧ ∀ i ∈ Region.ready md ops listed, i < m ∧ wpOp P ops QF i (fun a' w' => S w' ∧ wpAnyM P md ops S m L f (listed.setIfInBounds i true) a' w') a w
theorem wpAny_of_M {m g : Nat} {L : Array Bool → Act → World → Prop} {Q : Exit → Act → World → Prop} (hL : ∀ listed a w, L listed a w → wpAny P md ops Q g listed a w) :
    ∀ (f : Nat) (listed : Array Bool) (a : Act) (w : World), wpAnyM P md ops S m L f listed a w → wpAny P md ops Q (f + g) listed a w
  | 0, listed, a, w, h => by rw [Nat.zero_add]; exact hL _ _ _ h
  | f + 1, listed, a, w, h => by
    rw [show f + 1 + g = (f + g) + 1 by omega]
    exact ⟨fun h0 => absurd h0 h.1, fun i hi => wpOp_of_QF (wpOp_mono (fun a' w' h' => wpAny_of_M hL f _ a' w' h'.2) (h.2 i hi).2)⟩
theorem wpAnyM_first {m i : Nat} {oi : Oper} {v : Value} {L : Array Bool → Act → World → Prop} (hi : ops[i]? = some oi) (hsel : ∀ (j : Nat) (o : Oper) cs b, ops[j]? = some o → o.op ≠ .select cs b)
    (hs : Region.sinkB md ops m = true) (hc : Region.chainB md ops m = true) (hn : m < ops.size) (him : i < m)
    (hdone : ∀ listed a w, L listed a w → ∀ j ∈ Region.ready md ops listed, m ≤ j) :
    ∀ (f : Nat) (listed : Array Bool) (a : Act) (w : World), HeadInv md ops m listed →
      (∀ j oj, ops[j]? = some oj → j ≠ i → listed.getD j true = false → (∀ e ∈ oj.after, Region.binds md e = true → e.on ≠ i) → oi.apart ops oj = true) →
      i ∈ Region.ready md ops listed → YieldsC P ops S oi v a → S w →
      wpAnyM P md ops S m L f (listed.setIfInBounds i true) (a.put oi.dst v) w → wpAnyM P md ops S m L (f + 1) listed a w := by
  intro f
  induction f with
  | zero =>
    intro listed a w inv _ hr hy hS H
    have hun := (mem_ready.1 hr).1
    refine ⟨fun h => (by rw [h] at hr; cases hr), fun j hj => ?_⟩
    have hjm : j < m := by
      rcases Nat.lt_or_ge j m with h | h
      · exact h
      · exact absurd hj (tail_waits hs hc hn inv _ i rfl him hun j h)
    refine ⟨hjm, ?_⟩
    by_cases hji : j = i
    · subst hji; exact hy.wpOp hi hS ⟨hS, H⟩
    · have := hdone _ _ _ H j (ready_mono hj hji)
      omega
  | succ f ih =>
    intro listed a w inv hfree hr hy hS H
    have hun := (mem_ready.1 hr).1
    refine ⟨fun h => (by rw [h] at hr; cases hr), fun j hj => ?_⟩
    have hjm : j < m := by
      rcases Nat.lt_or_ge j m with h | h
      · exact h
      · exact absurd hj (tail_waits hs hc hn inv _ i rfl him hun j h)
    refine ⟨hjm, ?_⟩
    by_cases hji : j = i
    · subst hji; exact hy.wpOp hi hS ⟨hS, H⟩
    · have h1 := (H.2 j (ready_mono hj hji)).2
      obtain ⟨hjun, oj, hoj, hall⟩ := mem_ready.1 hj
      have hnot : ∀ e ∈ oj.after, Region.binds md e = true → e.on ≠ i := fun e he hb heq => by
        have h1 := hall e he hb
        rw [heq, getD_both hun] at h1
        cases h1
      have h2 := wpOp_putC hoj (hfree j oj hoj hji hjun hnot) (fun cs b => hsel i oi cs b hi) (fun cs b => hsel j oj cs b hoj) hy h1
      have hfree' : ∀ k ok, ops[k]? = some ok → k ≠ i → (listed.setIfInBounds j true).getD k true = false →
          (∀ e ∈ ok.after, Region.binds md e = true → e.on ≠ i) → oi.apart ops ok = true := fun k ok hk hki hun hno => by
        refine hfree k ok hk hki ?_ hno
        by_cases hjk : j = k
        · subst hjk; exact hjun
        · rw [getD_set_ne true hjk] at hun; exact hun
      refine wpOp_mono (fun a' w' h3 => ⟨h3.2.1, ih (listed.setIfInBounds j true) a' w' (inv.set hj hjm) hfree' (ready_mono hr (Ne.symm hji)) h3.1 h3.2.1 ?_⟩) h2
      rw [Array.setIfInBounds_comm _ _ hji]
      exact h3.2.2
/-- Each of the readers in turn, in every world that meets S. -/
def wpOn (P : Program) (ops : Array Oper) (S : World → Prop) (Q : Act → Prop) : List Oper → Act → Prop
  | [], a => Q a
  | o :: rest, a => ∃ a1 : Act, (∀ w, S w → ∀ K : Act → Prop, K a1 → if Region.wanted o (yielded ops a.tmps) then o.still P a w K else K (a.put o.dst undef)) ∧ wpOn P ops S Q rest a1
/-- Each of the keepers in turn. -/
def wpMid (P : Program) (ops : Array Oper) (S : World → Prop) (Q : Act → World → Prop) : List Oper → Act → World → Prop
  | [], a, w => Q a w
  | o :: rest, a, w => ∀ K : Act → World → Prop, (∀ a' w', S w' → wpMid P ops S Q rest a' w' → K a' w') → wpList P ops (only K) [o] a w
theorem wpOp_of_list' {i : Nat} {o : Oper} {a : Act} {w : World} {K : Act → World → Prop} (ho : ops[i]? = some o) (hh : wpList P ops (only K) [o] a w) : wpOp P ops QF i K a w :=
  wpOp_of_list ho (fun _ _ h => h) hh
/-- The operation of a number. -/
def opN (ops : Array Oper) (k : Nat) : Oper := ops.toList.getD k ⟨none, .ready 0, 0, "", #[], none⟩
def seqI (md : Region.Mode) (ops : Array Oper) (g m : Nat) : List Nat → Array Bool → Bool
  | [], listed => Region.seqB md ops g m listed
  | k :: ks, listed => decide (Region.ready md ops listed = [k]) && decide (k < m) && seqI md ops g m ks (listed.setIfInBounds k true)
def headI (md : Region.Mode) (ops : Array Oper) (g m : Nat) (ms : List Nat) : List Nat → Array Bool → Bool
  | [], listed => seqI md ops g m ms listed
  | k :: ks, listed => (Region.ready md ops listed).contains k && Region.free md ops listed k && decide (k < m) && headI md ops g m ms ks (listed.setIfInBounds k true)
theorem opN_get {k m : Nat} (h : k < m) (hm : m < ops.size) : ops[k]? = some (opN ops k) := by
  unfold opN
  rw [List.getD_eq_getElem?_getD]
  have : k < ops.size := by omega
  simp [this]
theorem wpAnyM_mid {m g : Nat} {L : Act → World → Prop} (hn : m < ops.size) : ∀ (l : List Nat) (listed : Array Bool) (a : Act) (w : World),
    seqI md ops g m l listed = true → S w → wpMid P ops S L (l.map (opN ops)) a w →
    wpAnyM P md ops S m (fun listed' a' w' => Region.seqB md ops g m listed' = true ∧ L a' w') l.length listed a w
  | [], listed, a, w, hB, _, h => ⟨hB, h⟩
  | k :: l, listed, a, w, hB, hS, h => by
    simp only [seqI, Bool.and_eq_true, decide_eq_true_eq] at hB
    obtain ⟨⟨hr, hk⟩, hB'⟩ := hB
    refine ⟨fun h1 => (by rw [hr] at h1; cases h1), fun i hi => ?_⟩
    rw [hr] at hi
    have hik : i = k := by simpa using hi
    subst hik
    refine ⟨hk, wpOp_of_list' (opN_get hk hn) (h _ fun a' w' hS' h' => ⟨hS', ?_⟩)⟩
    exact wpAnyM_mid hn l _ a' w' hB' hS' h'
/-- The operation has a slot of its own in a frame of N. -/
def dstB (N : Nat) (o : Oper) : Bool := match o.dst with | some d => decide (d < N) | none => false
theorem yieldsC_of_on {o : Oper} {a a1 : Act} (w0 : World) (hw0 : S w0) (hd : dstB a.tmps.size o = true) (h : ∀ w, S w → ∀ K : Act → Prop, K a1 → if Region.wanted o (yielded ops a.tmps) then o.still P a w K else K (a.put o.dst undef)) :
    ∃ v, YieldsC P ops S o v a ∧ a.put o.dst v = a1 := by
  have key : ∀ w, S w → ∃ v, YieldsAt P ops w o v a ∧ a.put o.dst v = a1 := fun w hS => by
    have h' := h w hS (· = a1) rfl
    by_cases hw : Region.wanted o (yielded ops a.tmps) = true
    · rw [if_pos hw] at h'
      unfold Oper.still at h'
      generalize hr : (execOp a.eval o).run P w = r at h'
      cases r with
      | ok n w' =>
        cases n <;> simp only [Oper.stillUpon] at h'
        case value u => obtain ⟨rfl, h2⟩ := h'; exact ⟨u, .inl ⟨hw, .inl hr⟩, h2⟩
        case skip => obtain ⟨rfl, h2⟩ := h'; exact ⟨undef, .inl ⟨hw, .inr (.inl ⟨hr, rfl⟩)⟩, h2⟩
        case enter f args => obtain ⟨rfl, v, hc, h2⟩ := h'; exact ⟨v, .inl ⟨hw, .inr (.inr ⟨f, args, hr, hc⟩)⟩, h2⟩
      | halt x w' => simp only [Oper.stillUpon] at h'
    · rw [if_neg hw] at h'
      exact ⟨undef, .inr ⟨by simpa using hw, rfl⟩, h'⟩
  obtain ⟨v, hv, he⟩ := key w0 hw0
  refine ⟨v, fun w hS => ?_, he⟩
  obtain ⟨v', hv', he'⟩ := key w hS
  have : v' = v := by
    unfold dstB at hd
    cases hq : o.dst with
    | none => rw [hq] at hd; cases hd
    | some d =>
      rw [hq] at hd
      have hlt : d < a.tmps.size := by simpa using hd
      have e : (a.put o.dst v').tmps[d]? = (a.put o.dst v).tmps[d]? := by rw [he, he']
      rw [hq] at e
      simpa [Act.put, hlt] using e
  rw [← this]; exact hv'
theorem put_size (a : Act) (d : Option Tmp) (v : Value) : (a.put d v).tmps.size = a.tmps.size := by
  unfold Act.put; split <;> simp
theorem wpAnyM_on {m g N : Nat} {L : Act → World → Prop} {ms : List Nat} (hsel : Region.noSelect ops = true) (hs : Region.sinkB md ops m = true) (hc : Region.chainB md ops m = true) (hn : m < ops.size) :
    ∀ (l : List Nat) (listed : Array Bool) (a : Act) (w : World), HeadInv md ops m listed → a.tmps.size = N → (l.map (opN ops)).all (dstB N) = true →
    headI md ops g m ms l listed = true → (∀ j ∈ ms, j < m) → S w → wpOn P ops S (fun a' => ∀ w', S w' → wpMid P ops S L (ms.map (opN ops)) a' w') (l.map (opN ops)) a →
    wpAnyM P md ops S m (fun listed' a' w' => Region.seqB md ops g m listed' = true ∧ L a' w') (l.length + ms.length) listed a w
  | [], listed, a, w, _, _, _, hB, _, hS, h => by
    rw [List.length_nil, Nat.zero_add]
    exact wpAnyM_mid hn ms listed a w (by simpa [headI] using hB) hS (h w hS)
  | k :: l, listed, a, w, inv, hN, hD, hB, hms, hS, h => by
    simp only [headI, Bool.and_eq_true, decide_eq_true_eq] at hB
    obtain ⟨⟨⟨hr, hf⟩, hkm⟩, hB'⟩ := hB
    have h0 := opN_get hkm hn
    have hr' : k ∈ Region.ready md ops listed := by simpa using hr
    rw [List.map_cons, List.all_cons, Bool.and_eq_true] at hD
    obtain ⟨a1, h1, h2⟩ := h
    obtain ⟨v, hv, he⟩ := yieldsC_of_on w hS (by rw [hN]; exact hD.1) h1
    subst he
    rw [List.length_cons, show l.length + 1 + ms.length = (l.length + ms.length) + 1 by omega]
    exact wpAnyM_first h0 (Region.noSelect_spec hsel) hs hc hn hkm (fun listed' a' w' hL => seqB_ready hL.1) (l.length + ms.length) listed a w inv (Region.free_spec h0 hf) hr' hv hS
      (wpAnyM_on hsel hs hc hn l _ _ w (inv.set hr' hkm) (by rw [put_size]; exact hN) hD.2 hB' hms hS h2)
theorem wpOn_step {S : World → Prop} {Q : Act → Prop} {o : Oper} {rest : List Oper} {a : Act} (a1 : Act) (h1 : ∀ w, S w → ∀ K : Act → Prop, K a1 → if Region.wanted o (yielded ops a.tmps) then o.still P a w K else K (a.put o.dst undef)) (h2 : wpOn P ops S Q rest a1) : wpOn P ops S Q (o :: rest) a := ⟨a1, h1, h2⟩
theorem wpOn_nil {S : World → Prop} {Q : Act → Prop} {a : Act} (h : Q a) : wpOn P ops S Q [] a := h
theorem wpMid_step {S : World → Prop} {Q : Act → World → Prop} {o : Oper} {rest : List Oper} {a : Act} {w : World} (h : ∀ K : Act → World → Prop, (∀ a' w', S w' → wpMid P ops S Q rest a' w' → K a' w') → wpList P ops (only K) [o] a w) : wpMid P ops S Q (o :: rest) a w := h
theorem wpMid_nil {S : World → Prop} {Q : Act → World → Prop} {a : Act} {w : World} (h : Q a w) : wpMid P ops S Q [] a w := h
/-- The checks: readers, then keepers, all below m; then the rest. -/
def onB (ops : Array Oper) (N : Nat) (hs ms : List Nat) (m : Nat) : Bool :=
  Region.noSelect ops && decide (m < ops.size) && decide (hs.length + ms.length = m) && Region.sinkB .any ops m && Region.chainB .any ops m && (hs.map (opN ops)).all (dstB N) && ms.all (fun k => decide (k < m)) && headI .any ops (ops.size - m) m ms hs (Array.replicate ops.size false)
theorem wp_region_on {id : Nat} {Q : Exit → Act → World → Prop} {a : Act} {w : World} {l : List Oper} (S : World → Prop) (hs ms : List Nat) (m : Nat) (hm : P.follows .mixedOrders = true) (hB : onB l.toArray a.tmps.size hs ms m = true)
    (hS : S { w with drawn := w.drawn + 1 })
    (h : wpOn P l.toArray S (fun a' => ∀ w', S w' → wpMid P l.toArray S (fun a2 w2 => wpList P l.toArray Q (l.drop m) a2 w2) (ms.map (opN l.toArray)) a' w') (hs.map (opN l.toArray)) a) : (Code.region id l.toArray true).wp P Q a w := by
  simp only [onB, Bool.and_eq_true, decide_eq_true_eq] at hB
  obtain ⟨⟨⟨⟨⟨⟨⟨hsel, hn⟩, hlen⟩, hsk⟩, hc⟩, hD⟩, hms⟩, hlex⟩ := hB
  have hdl : (l.drop m).length = l.toArray.size - m := by simp
  have inv0 : HeadInv .any l.toArray m (Array.replicate l.toArray.size false) :=
    ⟨by simp, fun j oj _ hl => (by rw [getD_replicate_false] at hl; cases hl), fun t _ ht => getD_in (by simpa using ht) (getD_replicate_false _ _)⟩
  have H := wpAnyM_on (md := .any) (g := l.toArray.size - m) (m := m) (N := a.tmps.size) (ms := ms) hsel hsk hc hn hs _ a _ inv0 rfl hD hlex (fun j hj => by
    have := List.all_eq_true.1 hms j hj; simpa using this) hS h
  refine wp_region_any hm ?_
  have := wpAny_of_M (Q := Q) (g := l.toArray.size - m) (fun listed a' w' hL => by
    have := wpAny_of_seq (md := .any) (Q' := Q) (l.drop m) m listed a' w' (fun j => by simp [List.getElem?_drop]) (by rw [hdl]; exact hL.1) hL.2
    rwa [hdl] at this) _ _ _ _ H
  rw [hlen, show m + (l.toArray.size - m) = l.toArray.size by omega] at this
  exact this
theorem opN_zero (o : Oper) (l : List Oper) : opN (o :: l).toArray 0 = o := rfl
theorem opN_succ (o : Oper) (l : List Oper) (k : Nat) : opN (o :: l).toArray (k + 1) = opN l.toArray k := rfl
end
end Go.Proofs.YtopenojociafaaaDoor
namespace Go.Proofs.YtopenojociafaaaDoor
section
variable {P : Program} {ops : Array Oper} {md : Region.Mode} {S : World → Prop}
/-- The steps: true: a reader; false: a keeper. -/
def stepI (md : Region.Mode) (ops : Array Oper) (g m : Nat) : List (Bool × Nat) → Array Bool → Bool
  | [], listed => Region.seqB md ops g m listed
  | (true, k) :: ks, listed => (Region.ready md ops listed).contains k && Region.free md ops listed k && decide (k < m) && stepI md ops g m ks (listed.setIfInBounds k true)
  | (false, k) :: ks, listed => decide (Region.ready md ops listed = [k]) && decide (k < m) && stepI md ops g m ks (listed.setIfInBounds k true)
def wpSt (P : Program) (ops : Array Oper) (S : World → Prop) (Q : Act → World → Prop) : List (Bool × Oper) → Act → World → Prop
  | [], a, w => Q a w
  | (true, o) :: rest, a, w => ∃ a1 : Act, (∀ w, S w → ∀ K : Act → Prop, K a1 → if Region.wanted o (yielded ops a.tmps) then o.still P a w K else K (a.put o.dst undef)) ∧ wpSt P ops S Q rest a1 w
  | (false, o) :: rest, a, w => ∀ K : Act → World → Prop, (∀ a' w', S w' → a'.tmps.size = a.tmps.size → wpSt P ops S Q rest a' w' → K a' w') → wpList P ops (only K) [o] a w
def opS' (ops : Array Oper) (q : Bool × Nat) : Bool × Oper := (q.1, opN ops q.2)
theorem wpAnyM_st {m g N : Nat} {L : Act → World → Prop} (hsel : Region.noSelect ops = true) (hs : Region.sinkB md ops m = true) (hc : Region.chainB md ops m = true) (hn : m < ops.size) :
    ∀ (l : List (Bool × Nat)) (listed : Array Bool) (a : Act) (w : World), HeadInv md ops m listed → a.tmps.size = N → l.all (fun q => !q.1 || dstB N (opN ops q.2)) = true →
    stepI md ops g m l listed = true → S w → wpSt P ops S L (l.map (opS' ops)) a w →
    wpAnyM P md ops S m (fun listed' a' w' => Region.seqB md ops g m listed' = true ∧ L a' w') l.length listed a w
  | [], listed, a, w, _, _, _, hB, _, h => ⟨hB, h⟩
  | (true, k) :: l, listed, a, w, inv, hN, hD, hB, hS, h => by
    simp only [stepI, Bool.and_eq_true, decide_eq_true_eq] at hB
    obtain ⟨⟨⟨hr, hf⟩, hkm⟩, hB'⟩ := hB
    have h0 := opN_get hkm hn
    have hr' : k ∈ Region.ready md ops listed := by simpa using hr
    rw [List.all_cons, Bool.and_eq_true] at hD
    obtain ⟨a1, h1, h2⟩ := h
    obtain ⟨v, hv, he⟩ := yieldsC_of_on w hS (by rw [hN]; simpa using hD.1) h1
    subst he
    exact wpAnyM_first h0 (Region.noSelect_spec hsel) hs hc hn hkm (fun listed' a' w' hL => seqB_ready hL.1) l.length listed a w inv (Region.free_spec h0 hf) hr' hv hS
      (wpAnyM_st hsel hs hc hn l _ _ w (inv.set hr' hkm) (by rw [put_size]; exact hN) hD.2 hB' hS h2)
  | (false, k) :: l, listed, a, w, inv, hN, hD, hB, hS, h => by
    simp only [stepI, Bool.and_eq_true, decide_eq_true_eq] at hB
    obtain ⟨⟨hr, hk⟩, hB'⟩ := hB
    rw [List.all_cons, Bool.and_eq_true] at hD
    refine ⟨fun h1 => (by rw [hr] at h1; cases h1), fun i hi => ?_⟩
    have hi' := hi
    rw [hr] at hi
    have hik : i = k := by simpa using hi
    subst hik
    refine ⟨hk, wpOp_of_list' (opN_get hk hn) (h _ fun a' w' hS' hsz h' => ⟨hS', ?_⟩)⟩
    exact wpAnyM_st hsel hs hc hn l _ a' w' (inv.set hi' hk) (hsz.trans hN) hD.2 hB' hS' h'
theorem wpSt_read {S : World → Prop} {Q : Act → World → Prop} {o : Oper} {rest : List (Bool × Oper)} {a : Act} {w : World} (a1 : Act) (h1 : ∀ w, S w → ∀ K : Act → Prop, K a1 → if Region.wanted o (yielded ops a.tmps) then o.still P a w K else K (a.put o.dst undef)) (h2 : wpSt P ops S Q rest a1 w) : wpSt P ops S Q ((true, o) :: rest) a w := ⟨a1, h1, h2⟩
theorem wpSt_keep {S : World → Prop} {Q : Act → World → Prop} {o : Oper} {rest : List (Bool × Oper)} {a : Act} {w : World} (h : ∀ K : Act → World → Prop, (∀ a' w', S w' → a'.tmps.size = a.tmps.size → wpSt P ops S Q rest a' w' → K a' w') → wpList P ops (only K) [o] a w) : wpSt P ops S Q ((false, o) :: rest) a w := h
theorem wpSt_nil {S : World → Prop} {Q : Act → World → Prop} {a : Act} {w : World} (h : Q a w) : wpSt P ops S Q [] a w := h
def stB (ops : Array Oper) (N : Nat) (st : List (Bool × Nat)) (m : Nat) : Bool :=
  Region.noSelect ops && decide (m < ops.size) && decide (st.length = m) && Region.sinkB .any ops m && Region.chainB .any ops m && st.all (fun q => !q.1 || dstB N (opN ops q.2)) && stepI .any ops (ops.size - m) m st (Array.replicate ops.size false)
theorem wp_region_st {id : Nat} {Q : Exit → Act → World → Prop} {a : Act} {w : World} {l : List Oper} (S : World → Prop) (st : List (Bool × Nat)) (m : Nat) (hm : P.follows .mixedOrders = true) (hB : stB l.toArray a.tmps.size st m = true)
    (hS : S { w with drawn := w.drawn + 1 })
    (h : wpSt P l.toArray S (fun a2 w2 => wpList P l.toArray Q (l.drop m) a2 w2) (st.map (opS' l.toArray)) a { w with drawn := w.drawn + 1 }) : (Code.region id l.toArray true).wp P Q a w := by
  simp only [stB, Bool.and_eq_true, decide_eq_true_eq] at hB
  obtain ⟨⟨⟨⟨⟨⟨hsel, hn⟩, hlen⟩, hsk⟩, hc⟩, hD⟩, hlex⟩ := hB
  have hdl : (l.drop m).length = l.toArray.size - m := by simp
  have inv0 : HeadInv .any l.toArray m (Array.replicate l.toArray.size false) :=
    ⟨by simp, fun j oj _ hl => (by rw [getD_replicate_false] at hl; cases hl), fun t _ ht => getD_in (by simpa using ht) (getD_replicate_false _ _)⟩
  have H := wpAnyM_st (md := .any) (g := l.toArray.size - m) (m := m) (N := a.tmps.size) hsel hsk hc hn st _ a _ inv0 rfl hD hlex hS h
  refine wp_region_any hm ?_
  have := wpAny_of_M (Q := Q) (g := l.toArray.size - m) (fun listed a' w' hL => by
    have := wpAny_of_seq (md := .any) (Q' := Q) (l.drop m) m listed a' w' (fun j => by simp [List.getElem?_drop]) (by rw [hdl]; exact hL.1) hL.2
    rwa [hdl] at this) _ _ _ _ H
  rw [hlen, show m + (l.toArray.size - m) = l.toArray.size by omega] at this
  exact this
theorem opS'_mk (l : List Oper) (b : Bool) (k : Nat) : opS' l.toArray (b, k) = (b, opN l.toArray k) := rfl
end
end Go.Proofs.YtopenojociafaaaDoor
namespace Go.Proofs.YtopenojociafaaaDoor
open Go.RowKit
set_option linter.unusedVariables false
set_option linter.unusedSimpArgs false
def hdr (g n : Nat) (os : List Nat) : Array Value := (os.map (fun o => Value.slice (some ⟨g, o, none⟩) n n)).toArray
theorem hdr_get (g n : Nat) (os : List Nat) (i : Nat) (h : i < os.length) : (hdr g n os)[i]? = some (.slice (some ⟨g, os.getD i 0, none⟩) n n) := by
  simp [hdr, h]
theorem hdr_set (g n : Nat) (os : List Nat) (i o : Nat) : (hdr g n os).setIfInBounds i (.slice (some ⟨g, o, none⟩) n n) = hdr g n (os.set i o) := by simp [hdr, List.map_set]
/-- Rows at their places in one list of numbers, none in the other's way. -/
structure Lay (N n : Nat) (os : List Nat) (ns : List Int) (R : List (List Int)) : Prop where
  lo : os.length = N
  lr : R.length = N
  len : ∀ i, i < N → (rw' R i).length = n
  room : ∀ i, i < N → os.getD i 0 + n ≤ ns.length
  apart : ∀ i j, i < N → j < N → i ≠ j → os.getD i 0 + n ≤ os.getD j 0 ∨ os.getD j 0 + n ≤ os.getD i 0
  at_ : ∀ i j, i < N → j < n → ns.getD (os.getD i 0 + j) 0 = (rw' R i).getD j 0
theorem rw'_set (R : List (List Int)) (i k : Nat) (r : List Int) (h : i < R.length) : rw' (R.set i r) k = if k = i then r else rw' R k := by
  unfold rw'
  rw [List.getD_eq_getElem?_getD, List.getElem?_set]
  by_cases e : i = k
  · subst e; simp [h]
  · rw [if_neg e, if_neg (fun x => e x.symm), List.getD_eq_getElem?_getD]
theorem getD_set (l : List Int) (i j : Nat) (x : Int) (h : i < l.length) : (l.set i x).getD j 0 = if j = i then x else l.getD j 0 := by
  rw [List.getD_eq_getElem?_getD, List.getElem?_set]
  by_cases e : i = j
  · subst e; simp [h]
  · rw [if_neg e, if_neg (fun x => e x.symm), List.getD_eq_getElem?_getD]
/-- One number is written. -/
theorem Lay.put {N n : Nat} {os : List Nat} {ns : List Int} {R : List (List Int)} (h : Lay N n os ns R) (i j : Nat) (x : Int) (hi : i < N) (hj : j < n) : Lay N n os (ns.set (os.getD i 0 + j) x) (R.set i ((rw' R i).set j x)) := by
  have hR : i < R.length := by rw [h.lr]; exact hi
  have hb := h.room i hi
  refine ⟨h.lo, by rw [List.length_set]; exact h.lr, fun k hk => ?_, fun k hk => by rw [List.length_set]; exact h.room k hk, h.apart, fun k l hk hl => ?_⟩
  · rw [rw'_set _ _ _ _ hR]
    split
    · rw [List.length_set]; exact h.len i hi
    · exact h.len k hk
  · rw [rw'_set _ _ _ _ hR, getD_set _ _ _ _ (by omega)]
    by_cases e : k = i
    · subst e
      rw [if_pos rfl, getD_set _ _ _ _ (by rw [h.len k hk]; exact hj)]
      by_cases e2 : l = j
      · subst e2; rw [if_pos rfl, if_pos rfl]
      · rw [if_neg (by omega), if_neg e2, h.at_ k l hk hl]
    · rw [if_neg e]
      have := h.apart k i hk hi e
      rw [if_neg (by omega), h.at_ k l hk hl]
/-- Two rows are exchanged. -/
theorem Lay.swap {N n : Nat} {os : List Nat} {ns : List Int} {R : List (List Int)} (h : Lay N n os ns R) (a b : Nat) (ha : a < N) (hb : b < N) : Lay N n ((os.set a (os.getD b 0)).set b (os.getD a 0)) ns ((R.set a (rw' R b)).set b (rw' R a)) := by
  have g1 : ∀ k, ((os.set a (os.getD b 0)).set b (os.getD a 0)).getD k 0 = os.getD (if k = b then a else if k = a then b else k) 0 := by
    intro k
    rw [List.getD_eq_getElem?_getD, List.getElem?_set, List.getElem?_set]
    by_cases e : b = k
    · subst e; simp [h.lo, hb]
    · rw [if_neg e, if_neg (show ¬ k = b from fun x => e x.symm)]
      by_cases e2 : a = k
      · subst e2; simp [h.lo, ha]
      · rw [if_neg e2, if_neg (show ¬ k = a from fun x => e2 x.symm), List.getD_eq_getElem?_getD]
  have g2 : ∀ k, rw' ((R.set a (rw' R b)).set b (rw' R a)) k = rw' R (if k = b then a else if k = a then b else k) := by
    intro k
    rw [rw'_set _ _ _ _ (by rw [List.length_set, h.lr]; exact hb), rw'_set _ _ _ _ (by rw [h.lr]; exact ha)]
    by_cases e : k = b
    · rw [if_pos e, if_pos e]
    · rw [if_neg e, if_neg e]
      by_cases e2 : k = a
      · rw [if_pos e2, if_pos e2]
      · rw [if_neg e2, if_neg e2]
  have hs : ∀ k, k < N → (if k = b then a else if k = a then b else k) < N := fun k hk => by split <;> (try split) <;> omega
  refine ⟨by rw [List.length_set, List.length_set]; exact h.lo, by rw [List.length_set, List.length_set]; exact h.lr, fun k hk => by rw [g2]; exact h.len _ (hs k hk), fun k hk => by rw [g1]; exact h.room _ (hs k hk), fun k l hk hl hkl => by
    rw [g1, g1]
    refine h.apart _ _ (hs k hk) (hs l hl) ?_
    split <;> split <;> (try split) <;> (try split) <;> omega, fun k l hk hl => by rw [g1, g2]; exact h.at_ _ _ (hs k hk) hl⟩
/-- The table in memory. -/
structure Tbd (w : World) (g1 g2 N n : Nat) (os : List Nat) (R : List (List Int)) : Prop where
  ne : g1 ≠ g2
  mem : ∃ ns, Own w g1 (icells ns) 2 ∧ Own w g2 (hdr g1 n os) 48 ∧ Lay N n os ns R
theorem Tbd.lt1 {w : World} {g1 g2 N n : Nat} {os : List Nat} {R : List (List Int)} (h : Tbd w g1 g2 N n os R) : g1 < w.heap.size ∧ g2 < w.heap.size := by
  obtain ⟨ns, a, b, _⟩ := h.mem
  exact ⟨a.lt, b.lt⟩
theorem Tbd.below {w w' : World} {B g1 g2 N n : Nat} {os : List Nat} {R : List (List Int)} (h : Tbd w g1 g2 N n os R) (hb : Below B w w') (h1 : g1 < B) (h2 : g2 < B) : Tbd w' g1 g2 N n os R := by
  obtain ⟨ns, a, b, c⟩ := h.mem
  exact ⟨h.ne, ns, a.below hb h1, b.below hb h2, c⟩
theorem Tbd.drew {w : World} {g1 g2 N n : Nat} {os : List Nat} {R : List (List Int)} (h : Tbd w g1 g2 N n os R) : Tbd { w with drawn := w.drawn + 1 } g1 g2 N n os R := by
  obtain ⟨ns, a, b, c⟩ := h.mem
  exact ⟨h.ne, ns, a, b, c⟩
theorem Tbd.head {w : World} {g1 g2 N n : Nat} {os : List Nat} {R : List (List Int)} (h : Tbd w g1 g2 N n os R) (i : Nat) (hi : i < N) : w.cell? ⟨g2, i, none⟩ = some (.slice (some ⟨g1, os.getD i 0, none⟩) n n) := by
  obtain ⟨ns, a, b, c⟩ := h.mem
  rw [b.cell, hdr_get _ _ _ _ (by rw [c.lo]; exact hi)]
theorem Tbd.num {w : World} {g1 g2 N n : Nat} {os : List Nat} {R : List (List Int)} (h : Tbd w g1 g2 N n os R) (i j : Nat) (hi : i < N) (hj : j < n) : w.cell? ⟨g1, os.getD i 0 + j, none⟩ = some (.int .i64 ((rw' R i).getD j 0)) := by
  obtain ⟨ns, a, b, c⟩ := h.mem
  have := c.room i hi
  rw [a.cell, icells_get _ _ (by omega), c.at_ i j hi hj]
theorem Tbd.free1 {w : World} {g1 g2 N n : Nat} {os : List Nat} {R : List (List Int)} (h : Tbd w g1 g2 N n os R) (k : Nat) : w.frozen? ⟨g1, k, none⟩ = false := by
  obtain ⟨ns, a, b, c⟩ := h.mem
  exact a.free k
theorem Tbd.free2 {w : World} {g1 g2 N n : Nat} {os : List Nat} {R : List (List Int)} (h : Tbd w g1 g2 N n os R) (k : Nat) : w.frozen? ⟨g2, k, none⟩ = false := by
  obtain ⟨ns, a, b, c⟩ := h.mem
  exact b.free k
theorem Tbd.put {w : World} {g1 g2 N n : Nat} {os : List Nat} {R : List (List Int)} (h : Tbd w g1 g2 N n os R) (i j : Nat) (x : Int) (hi : i < N) (hj : j < n) : Tbd (w.setCell ⟨g1, os.getD i 0 + j, none⟩ (.int .i64 x)) g1 g2 N n os (R.set i ((rw' R i).set j x)) := by
  obtain ⟨ns, a, b, c⟩ := h.mem
  refine ⟨h.ne, _, ?_, b.other (by simpa using h.ne) _, c.put i j x hi hj⟩
  have := a.set (os.getD i 0 + j) (.int .i64 x)
  rwa [icells_set] at this
theorem Tbd.len {w : World} {g1 g2 N n : Nat} {os : List Nat} {R : List (List Int)} (h : Tbd w g1 g2 N n os R) : R.length = N ∧ os.length = N := by
  obtain ⟨ns, a, b, c⟩ := h.mem
  exact ⟨c.lr, c.lo⟩
theorem Tbd.rlen {w : World} {g1 g2 N n : Nat} {os : List Nat} {R : List (List Int)} (h : Tbd w g1 g2 N n os R) (i : Nat) (hi : i < N) : (rw' R i).length = n := by
  obtain ⟨ns, a, b, c⟩ := h.mem
  exact c.len i hi
set_option maxRecDepth 100000 in
theorem ffI_any (g o n : Nat) (hn : n ≤ 1000000) (row : List Int) (hl : row.length = n) (w : World) (hr : ∀ j, j < n → w.cell? ⟨g, o + j, none⟩ = some (.int .i64 (row.getD j 0))) :
    Calls Tryd.prog 40 #[.slice (some ⟨g, o, none⟩) n n] w fun e w' => e = .returned (.int .i64 (ff row : Nat)) ∧ w' = w := by
  have hle := ff_le row
  have hz := Lib.hid (ff_zero row)
  have ha := Lib.hid (ff_at row)
  have hr' := Lib.hid hr
  rw [hl] at hle ha
  obtain ⟨F, hF⟩ : ∃ F, ff row = F := ⟨_, rfl⟩
  rw [hF] at hle hz ha ⊢
  clear hr hF hl
  go_enter Tryd.func40, Tryd.ntmps40
  go_wp2
  go_loopw [3] (fun i wr => ∃ k : Nat, k ≤ F ∧ i = .int .i64 k ∧ wr = w) (fun i _ => ((n : Int) + 1 - intOf i).toNat)
  case atStart => exact ⟨0, Nat.zero_le _, rfl, rfl⟩
  case round =>
    obtain ⟨k, hk, rfl, rfl⟩ := hrel
    by_cases hkn : k < n
    · have kI : (k : Int) < (n : Int) := by omega
      have c0 := hr'.out k hkn
      by_cases hkF : k < F
      · have z := hz.out k hkF
        rw [z] at c0
        go_wp2
        go_roundw
        case rel => exact ⟨k + 1, by omega, by go_num, trivial⟩
        case measure => simp [intOf]; omega
      · obtain rfl : k = F := by omega
        have z := ha.out hkn
        obtain ⟨x, hx⟩ : ∃ x, row.getD k 0 = x := ⟨_, rfl⟩
        rw [hx] at c0 z
        have z' : (x == 0) = false := by simpa using z
        clear hx
        go_wp2
        go_ret
        exact ⟨rfl, rfl⟩
    · obtain rfl : k = F := by omega
      have kI : ¬ (k : Int) < (n : Int) := by omega
      go_wp2
      go_ret
      exact ⟨rfl, rfl⟩
/-- A row times a number. -/
def scl (p f : Int) (row : List Int) : Nat → List Int
  | 0 => row
  | j + 1 => (scl p f row j).set j (row.getD j 0 * f % p)
theorem scl_len (p f : Int) (row : List Int) (j : Nat) : (scl p f row j).length = row.length := by
  induction j with
  | zero => rfl
  | succ j ih => rw [scl, List.length_set, ih]
theorem scl_get (p f : Int) (row : List Int) (j k : Nat) (hj : j ≤ row.length) : (scl p f row j).getD k 0 = if k < j then row.getD k 0 * f % p else row.getD k 0 := by
  induction j with
  | zero => simp [scl]
  | succ j ih =>
    rw [scl, getD_set _ _ _ _ (by rw [scl_len]; omega), ih (by omega)]
    by_cases e : k = j
    · subst e; rw [if_pos rfl, if_pos (by omega)]
    · rw [if_neg e]
      by_cases e2 : k < j
      · rw [if_pos e2, if_pos (by omega)]
      · rw [if_neg e2, if_neg (by omega)]
/-- A multiple of another row added to a row. -/
def adr (p f : Int) (own row : List Int) : Nat → List Int
  | 0 => row
  | j + 1 => (adr p f own row j).set j ((row.getD j 0 + own.getD j 0 * f) % p)
theorem adr_len (p f : Int) (own row : List Int) (j : Nat) : (adr p f own row j).length = row.length := by
  induction j with
  | zero => rfl
  | succ j ih => rw [adr, List.length_set, ih]
theorem adr_get (p f : Int) (own row : List Int) (j k : Nat) (hj : j ≤ row.length) : (adr p f own row j).getD k 0 = if k < j then (row.getD k 0 + own.getD k 0 * f) % p else row.getD k 0 := by
  induction j with
  | zero => simp [adr]
  | succ j ih =>
    rw [adr, getD_set _ _ _ _ (by rw [adr_len]; omega), ih (by omega)]
    by_cases e : k = j
    · subst e; rw [if_pos rfl, if_pos (by omega)]
    · rw [if_neg e]
      by_cases e2 : k < j
      · rw [if_pos e2, if_pos (by omega)]
      · rw [if_neg e2, if_neg (by omega)]
end Go.Proofs.YtopenojociafaaaDoor
namespace Go.Proofs.YtopenojociafaaaDoor
open Go.RowKit
set_option linter.unusedVariables false
set_option linter.unusedSimpArgs false
theorem rows_same (R : List (List Int)) (i : Nat) : R.set i (rw' R i) = R := by
  apply List.ext_getElem?
  intro k
  rw [List.getElem?_set]
  by_cases e : i = k
  · subst e
    by_cases h : i < R.length
    · rw [if_pos rfl, if_pos h]; unfold rw'; rw [List.getD_eq_getElem?_getD, List.getElem?_eq_getElem h]; rfl
    · rw [if_pos rfl, if_neg h, List.getElem?_eq_none (by omega)]
  · rw [if_neg e]
theorem Tbd.cast {w : World} {g1 g2 N n : Nat} {os : List Nat} {R R' : List (List Int)} (h : Tbd w g1 g2 N n os R) (e : R = R') : Tbd w g1 g2 N n os R' := by rw [← e]; exact h
set_option maxRecDepth 100000 in
set_option maxHeartbeats 2000000 in
theorem sclI_any (p f : Int) (hp : 2 ≤ p) (hp2 : p ≤ 97) (f0 : 0 ≤ f) (f1 : f < p) (g1 g2 N n : Nat) (os : List Nat) (R : List (List Int)) (hn : n ≤ 1000000) (i : Nat) (hi : i < N) (hbd : ∀ j, j < n → 0 ≤ (rw' R i).getD j 0 ∧ (rw' R i).getD j 0 < p) (B : Nat) (w : World) (h : Tbd w g1 g2 N n os R) (hB1 : B ≤ g1) (o : Nat) (ho : os.getD i 0 = o) :
    Calls Tryd.prog 61 #[.int .i64 p, .slice (some ⟨g1, o, none⟩) n n, .int .i64 f] w fun e w' => e = .returned (.tuple #[]) ∧ Tbd w' g1 g2 N n os (R.set i (scl p f (rw' R i) n)) ∧ Below B w w' := by
  have hrl := h.rlen i hi
  have hRl := h.len.1
  have hrow : ∀ S, rw' (R.set i S) i = S := fun S => by rw [rw'_set _ _ _ _ (by rw [hRl]; exact hi), if_pos rfl]
  have hset : ∀ S T, (R.set i S).set i T = R.set i T := fun S T => by rw [List.set_set]
  obtain ⟨row, hro⟩ : ∃ r, rw' R i = r := ⟨_, rfl⟩
  rw [hro] at hbd hrl
  have h0 : Tbd w g1 g2 N n os (R.set i (scl p f row 0)) := h.cast (by rw [scl, ← hro]; exact (rows_same R i).symm)
  rw [hro]
  have ho' := Lib.hid ho
  have hb' := Lib.hid hbd
  have hg := Lib.hid (fun j k (hj : j ≤ n) => scl_get p f row j k (by omega))
  have hl := Lib.hid (scl_len p f row)
  have hrow' := Lib.hid hrow
  have hset' := Lib.hid hset
  have hm := Lib.hid (fun x w1 (x0 : 0 ≤ x) (x1 : x < p) => (remI_any p (x * f) w1 hp hp2 (by have := bnd_mul p x f 0 hp hp2 x0 x1 f0 f1; omega) (by have := bnd_mul p x f 0 hp hp2 x0 x1 f0 f1; omega)).mono fun e w' h => (show e = .returned (.int .i64 (x * f % p)) ∧ w' = w1 from ⟨h.1, h.2.symm⟩))
  clear hbd hrow hset h hro ho
  go_enter Tryd.func61, Tryd.ntmps61
  go_wp2
  go_loopw [9] (fun i' wr => ∃ k : Nat, k ≤ n ∧ i' = .int .i64 k ∧ Tbd wr g1 g2 N n os (R.set i (scl p f row k)) ∧ Below B w wr) (fun i' _ => ((n : Int) - intOf i').toNat)
  case atStart => exact ⟨0, Nat.zero_le _, rfl, h0, Below.refl _ _⟩
  case round =>
    clear h0
    obtain ⟨k, hk, rfl, hT, hB⟩ := hrel
    by_cases hkn : k < n
    · have kI : (k : Int) < (n : Int) := by omega
      have c0 := hT.num i k hi hkn
      rw [hrow'.out, hg.out k k hk, if_neg (by omega), ho'.out] at c0
      have f0' := hT.free1 (o + k)
      obtain ⟨xb0, xb1⟩ := hb'.out k hkn
      have hst : scl p f row (k + 1) = (scl p f row k).set k (row.getD k 0 * f % p) := rfl
      obtain ⟨x, hx⟩ : ∃ x, row.getD k 0 = x := ⟨_, rfl⟩
      rw [hx] at c0 xb0 xb1 hst
      have hmx := Lib.hid (fun w => hm.out x w xb0 xb1)
      have bm := bnd_mul p x f 0 hp hp2 xb0 xb1 f0 f1
      obtain ⟨bm0, bm1⟩ := bm
      obtain ⟨y, hy⟩ : ∃ y, x * f % p = y := ⟨_, rfl⟩
      rw [hy] at hmx hst
      have hT2 := hT.put i k y hi hkn
      rw [hrow'.out, hset'.out, ← hst, ho'.out] at hT2
      have hB2 := hB.setCell (p := ⟨g1, o + k, none⟩) hB1 (.int .i64 y)
      have K1 := Lib.hid hT2
      have K2 := Lib.hid hB2
      clear hT hB hT2 hB2 hst hx hy
      go_wp2_with (first
        | (go_at_call 37; ((with_reducible refine (hmx.out _).mono ?_); rintro e w1 ⟨rfl, rfl⟩)))
      go_roundw
      case rel => exact ⟨k + 1, by omega, by go_num, K1.out, K2.out⟩
      case measure => simp [intOf]; omega
    · obtain rfl : k = n := by omega
      go_wp2
      go_end0
      exact ⟨rfl, hT, hB⟩
theorem adr_bd (p x y f : Int) (hp2 : p ≤ 97) (x0 : 0 ≤ x) (x1 : x < p) (y0 : 0 ≤ y) (y1 : y < p) (f0 : -97 ≤ f) (f1 : f ≤ 97) : -9409 ≤ y * f ∧ y * f ≤ 9409 ∧ -9409 ≤ x + y * f ∧ x + y * f ≤ 9506 := by
  have h1 := Int.mul_le_mul_of_nonneg_left f1 y0
  have h2 := Int.mul_le_mul_of_nonneg_left f0 y0
  omega
set_option maxRecDepth 100000 in
set_option maxHeartbeats 4000000 in
theorem adrI_any (p f : Int) (hp : 2 ≤ p) (hp2 : p ≤ 97) (f0 : -97 ≤ f) (f1 : f ≤ 97) (g1 g2 N n : Nat) (os : List Nat) (R : List (List Int)) (hn : n ≤ 1000000) (i r : Nat) (hi : i < N) (hr : r < N) (hir : i ≠ r) (hbd : ∀ i, i < N → ∀ j, j < n → 0 ≤ (rw' R i).getD j 0 ∧ (rw' R i).getD j 0 < p) (B : Nat) (w : World) (h : Tbd w g1 g2 N n os R) (hB1 : B ≤ g1) (o q : Nat) (ho : os.getD i 0 = o) (hq : os.getD r 0 = q) :
    Calls Tryd.prog 63 #[.int .i64 p, .slice (some ⟨g1, o, none⟩) n n, .slice (some ⟨g1, q, none⟩) n n, .int .i64 f] w fun e w' => e = .returned (.tuple #[]) ∧ Tbd w' g1 g2 N n os (R.set i (adr p f (rw' R r) (rw' R i) n)) ∧ Below B w w' := by
  have hrl := h.rlen i hi
  have hRl := h.len.1
  have hrow : ∀ S, rw' (R.set i S) i = S := fun S => by rw [rw'_set _ _ _ _ (by rw [hRl]; exact hi), if_pos rfl]
  have hoth : ∀ S, rw' (R.set i S) r = rw' R r := fun S => by rw [rw'_set _ _ _ _ (by rw [hRl]; exact hi), if_neg (fun e => hir e.symm)]
  have hset : ∀ S T, (R.set i S).set i T = R.set i T := fun S T => by rw [List.set_set]
  have b1 := hbd i hi
  have b2 := hbd r hr
  obtain ⟨row, hro⟩ : ∃ x, rw' R i = x := ⟨_, rfl⟩
  obtain ⟨own, hwn⟩ : ∃ x, rw' R r = x := ⟨_, rfl⟩
  rw [hro] at b1 hrl
  rw [hwn] at b2
  simp only [hwn] at hoth
  have h0 : Tbd w g1 g2 N n os (R.set i (adr p f own row 0)) := h.cast (by rw [adr, ← hro]; exact (rows_same R i).symm)
  rw [hro, hwn]
  have ho' := Lib.hid ho
  have hq' := Lib.hid hq
  have hb' := Lib.hid b1
  have hb2' := Lib.hid b2
  have hg := Lib.hid (fun j k (hj : j ≤ n) => adr_get p f own row j k (by omega))
  have hrow' := Lib.hid hrow
  have hoth' := Lib.hid hoth
  have hset' := Lib.hid hset
  have hm := Lib.hid (fun x y w1 (x0 : 0 ≤ x) (x1 : x < p) (y0 : 0 ≤ y) (y1 : y < p) => (remI_any p (x + y * f) w1 hp hp2 (by have := adr_bd p x y f hp2 x0 x1 y0 y1 f0 f1; omega) (by have := adr_bd p x y f hp2 x0 x1 y0 y1 f0 f1; omega)).mono fun e w' h => (show e = .returned (.int .i64 ((x + y * f) % p)) ∧ w' = w1 from ⟨h.1, h.2.symm⟩))
  clear hbd b1 b2 hrow hset hoth h hro hwn ho hq
  go_enter Tryd.func63, Tryd.ntmps63
  go_wp2
  go_loopw [11] (fun i' wr => ∃ k : Nat, k ≤ n ∧ i' = .int .i64 k ∧ Tbd wr g1 g2 N n os (R.set i (adr p f own row k)) ∧ Below B w wr) (fun i' _ => ((n : Int) - intOf i').toNat)
  case atStart => exact ⟨0, Nat.zero_le _, rfl, h0, Below.refl _ _⟩
  case round =>
    clear h0
    obtain ⟨k, hk, rfl, hT, hB⟩ := hrel
    by_cases hkn : k < n
    · have kI : (k : Int) < (n : Int) := by omega
      obtain ⟨x, hx⟩ : ∃ x, row.getD k 0 = x := ⟨_, rfl⟩
      obtain ⟨y, hy⟩ : ∃ y, own.getD k 0 = y := ⟨_, rfl⟩
      have hc := Lib.hid (show ∀ x' : World, Tbd x' g1 g2 N n os (R.set i (adr p f own row k)) → x'.cell? ⟨g1, o + k, none⟩ = some (.int .i64 x) ∧ x'.cell? ⟨g1, q + k, none⟩ = some (.int .i64 y) from fun x' h => by
        have a := h.num i k hi hkn
        have b := h.num r k hr hkn
        rw [hrow'.out, hg.out k k hk, if_neg (by omega), ho'.out, hx] at a
        rw [hoth'.out, hq'.out, hy] at b
        exact ⟨a, b⟩)
      obtain ⟨xb0, xb1⟩ := hb'.out k hkn
      obtain ⟨yb0, yb1⟩ := hb2'.out k hkn
      rw [hx] at xb0 xb1
      rw [hy] at yb0 yb1
      have hst : adr p f own row (k + 1) = (adr p f own row k).set k ((row.getD k 0 + own.getD k 0 * f) % p) := rfl
      rw [hx, hy] at hst
      have hmx := Lib.hid (fun w => hm.out x y w xb0 xb1 yb0 yb1)
      obtain ⟨bm0, bm1, bm2, bm3⟩ := adr_bd p x y f hp2 xb0 xb1 yb0 yb1 f0 f1
      obtain ⟨z, hz⟩ : ∃ z, (x + y * f) % p = z := ⟨_, rfl⟩
      rw [hz] at hmx hst
      have hpt := Lib.hid (show ∀ x' : World, Tbd x' g1 g2 N n os (R.set i (adr p f own row k)) → Tbd (x'.setCell ⟨g1, o + k, none⟩ (.int .i64 z)) g1 g2 N n os (R.set i (adr p f own row (k + 1))) from fun x' h => by
        have a := h.put i k z hi hkn
        rwa [hrow'.out, hset'.out, ← hst, ho'.out] at a)
      clear hst hx hy hz
      go_upto_region 3 with fail
      refine wp_region_st (fun x => Tbd x g1 g2 N n os (R.set i (adr p f own row k))) [(true, 0), (true, 1), (true, 2), (true, 3), (true, 4), (true, 5), (true, 6), (true, 7), (true, 8), (true, 9), (true, 10), (true, 11), (true, 12), (true, 13), (false, 14)] 15 (by kernel_rfl) (by kernel_rfl) hT.drew ?_
      have hTd := hT.drew
      have hBd : Below B w { wr with drawn := wr.drawn + 1 } := hB.drew
      clear hT hB
      generalize ({ wr with drawn := wr.drawn + 1 } : World) = w3 at *
      simp only [List.map_cons, List.map_nil, opS'_mk, opN_zero, opN_succ, List.drop_succ_cons, List.drop_zero]
      (apply wpSt_read; · (intro wd hS K hK; clear hS; go_simp; exact hK))
      (apply wpSt_read; · (intro wd hS K hK; clear hS; go_simp; exact hK))
      (apply wpSt_read; · (intro wd hS K hK; clear hS; go_simp; exact hK))
      (apply wpSt_read; · (intro wd hS K hK; clear hS; go_simp; exact hK))
      (apply wpSt_read; · (intro wd hS K hK; clear hS; go_simp; exact hK))
      (apply wpSt_read; · (intro wd hS K hK; clear hS; go_simp; exact hK))
      (apply wpSt_read; · (intro wd hS K hK; obtain ⟨d0, d1⟩ := hc.out wd hS; clear hS; go_simp; exact hK))
      (apply wpSt_read; · (intro wd hS K hK; clear hS; go_simp; exact hK))
      (apply wpSt_read; · (intro wd hS K hK; clear hS; go_simp; exact hK))
      (apply wpSt_read; · (intro wd hS K hK; clear hS; go_simp; exact hK))
      (apply wpSt_read; · (intro wd hS K hK; obtain ⟨d0, d1⟩ := hc.out wd hS; clear hS; go_simp; exact hK))
      (apply wpSt_read; · (intro wd hS K hK; clear hS; go_simp; exact hK))
      (apply wpSt_read; · (intro wd hS K hK; clear hS; go_simp; exact hK))
      (apply wpSt_read; · (intro wd hS K hK; clear hS; go_simp; exact hK))
      refine wpSt_keep (fun K hK => ?_)
      go_wp2_with (first
        | (go_at_call 37; ((with_reducible refine (hmx.out _).mono ?_); rintro e w4 ⟨rfl, rfl⟩)))
      refine hK _ _ hTd rfl ?_
      clear hK K
      refine wpSt_nil ?_
      obtain ⟨d0, d1⟩ := hc.out _ hTd
      have f0' := hTd.free1 (o + k)
      have K1 := Lib.hid (hpt.out _ hTd)
      have K2 := Lib.hid (hBd.setCell (p := ⟨g1, o + k, none⟩) hB1 (.int .i64 z))
      clear hTd hBd d1
      go_wp2
      go_roundw
      case rel => exact ⟨k + 1, by omega, by go_num, K1.out, K2.out⟩
      case measure => simp [intOf]; omega
    · obtain rfl : k = n := by omega
      go_wp2
      go_end0
      exact ⟨rfl, hT, hB⟩
end Go.Proofs.YtopenojociafaaaDoor
namespace Go.Proofs.YtopenojociafaaaDoor
open Go.RowKit
set_option linter.unusedVariables false
set_option linter.unusedSimpArgs false
def swp (R : List (List Int)) (r b : Nat) : List (List Int) := if b = r then R else (R.set r (rw' R b)).set b (rw' R r)
theorem swp_len (R : List (List Int)) (r b : Nat) : (swp R r b).length = R.length := by unfold swp; split <;> simp
theorem swp_get (R : List (List Int)) (r b k : Nat) (hr : r < R.length) (hb : b < R.length) : rw' (swp R r b) k = rw' R (if k = b then r else if k = r then b else k) := by
  unfold swp
  split
  · rename_i h
    subst h
    split
    · rename_i h2; rw [h2]
    · rfl
  · rw [rw'_set _ _ _ _ (by rw [List.length_set]; exact hb), rw'_set _ _ _ _ hr]
    by_cases e : k = b
    · rw [if_pos e, if_pos e]
    · rw [if_neg e, if_neg e]
      by_cases e2 : k = r
      · rw [if_pos e2, if_pos e2]
      · rw [if_neg e2, if_neg e2]
/-- The first i rows, but the row r, with the row r taken away. -/
def upd (p : Int) (n r pl : Nat) (R : List (List Int)) : Nat → List (List Int)
  | 0 => R
  | i + 1 => if i = r then upd p n r pl R i else (upd p n r pl R i).set i (adr p (-((rw' (upd p n r pl R i) i).getD pl 0)) (rw' (upd p n r pl R i) r) (rw' (upd p n r pl R i) i) n)
theorem upd_len (p : Int) (n r pl : Nat) (R : List (List Int)) (i : Nat) : (upd p n r pl R i).length = R.length := by
  induction i with
  | zero => rfl
  | succ i ih => unfold upd; split <;> simp [ih]
theorem upd_get (p : Int) (n r pl : Nat) (R : List (List Int)) (i k : Nat) (hi : i ≤ R.length) : rw' (upd p n r pl R i) k = if k < i ∧ k ≠ r then adr p (-((rw' R k).getD pl 0)) (rw' R r) (rw' R k) n else rw' R k := by
  induction i generalizing k with
  | zero => simp [upd]
  | succ i ih =>
    unfold upd
    by_cases e : i = r
    · rw [if_pos e, ih k (by omega)]
      by_cases h : k < i ∧ k ≠ r
      · rw [if_pos h, if_pos ⟨by omega, h.2⟩]
      · rw [if_neg h, if_neg (by omega)]
    · rw [if_neg e, rw'_set _ _ _ _ (by rw [upd_len]; omega)]
      have h1 : rw' (upd p n r pl R i) i = rw' R i := by rw [ih i (by omega), if_neg (by omega)]
      have h2 : rw' (upd p n r pl R i) r = rw' R r := by rw [ih r (by omega), if_neg (by omega)]
      by_cases hk : k = i
      · subst hk
        rw [if_pos rfl, if_pos ⟨by omega, e⟩, h1, h2]
      · rw [if_neg hk, ih k (by omega)]
        by_cases h : k < i ∧ k ≠ r
        · rw [if_pos h, if_pos ⟨by omega, h.2⟩]
        · rw [if_neg h, if_neg (by omega)]
theorem adr_bds (p f : Int) (own row : List Int) (n : Nat) (hp : 2 ≤ p) (hl : row.length = n) (j : Nat) (hj : j < n) : 0 ≤ (adr p f own row n).getD j 0 ∧ (adr p f own row n).getD j 0 < p := by
  rw [adr_get _ _ _ _ _ _ (by omega), if_pos hj]
  exact ⟨Int.emod_nonneg _ (by omega), Int.emod_lt_of_pos _ (by omega)⟩
theorem scl_bds (p f : Int) (row : List Int) (n : Nat) (hp : 2 ≤ p) (hl : row.length = n) (j : Nat) (hj : j < n) : 0 ≤ (scl p f row n).getD j 0 ∧ (scl p f row n).getD j 0 < p := by
  rw [scl_get _ _ _ _ _ (by omega), if_pos hj]
  exact ⟨Int.emod_nonneg _ (by omega), Int.emod_lt_of_pos _ (by omega)⟩
/-- Rows of n numbers modulo p. -/
def RowsP (p : Int) (n : Nat) (R : List (List Int)) : Prop := RowsOk p n 0 R
theorem swp_ok {p : Int} {n : Nat} {R : List (List Int)} (h : RowsP p n R) (r b : Nat) (hr : r < R.length) (hb : b < R.length) : RowsP p n (swp R r b) := by
  have hx : ∀ i, i < R.length → (if i = b then r else if i = r then b else i) < R.length := fun i hi => by split <;> (try split) <;> omega
  refine ⟨fun i hi => ?_, fun i j hi hj => ?_, fun i j _ hj => by omega⟩
  · rw [swp_len] at hi
    rw [swp_get _ _ _ _ hr hb]; exact h.len _ (hx i hi)
  · rw [swp_len] at hi
    rw [swp_get _ _ _ _ hr hb]; exact h.bd _ j (hx i hi) hj
theorem set_ok {p : Int} {n : Nat} {R : List (List Int)} (h : RowsP p n R) (r : Nat) (S : List Int) (hr : r < R.length) (hl : S.length = n) (hb : ∀ j, j < n → 0 ≤ S.getD j 0 ∧ S.getD j 0 < p) : RowsP p n (R.set r S) := by
  refine ⟨fun i hi => ?_, fun i j hi hj => ?_, fun i j _ hj => by omega⟩
  · rw [List.length_set] at hi
    rw [rw'_set _ _ _ _ hr]
    split
    · exact hl
    · exact h.len i hi
  · rw [List.length_set] at hi
    rw [rw'_set _ _ _ _ hr]
    split
    · exact hb j hj
    · exact h.bd i j hi hj
theorem upd_ok {p : Int} {n : Nat} {R : List (List Int)} (hp : 2 ≤ p) (h : RowsP p n R) (r pl i : Nat) (hi : i ≤ R.length) : RowsP p n (upd p n r pl R i) := by
  refine ⟨fun k hk => ?_, fun k j hk hj => ?_, fun k j _ hj => by omega⟩
  · rw [upd_len] at hk
    rw [upd_get _ _ _ _ _ _ _ hi]
    split
    · rw [adr_len]; exact h.len k hk
    · exact h.len k hk
  · rw [upd_len] at hk
    rw [upd_get _ _ _ _ _ _ _ hi]
    split
    · exact adr_bds _ _ _ _ _ hp (h.len k hk) j hj
    · exact h.bd k j hk hj
theorem drop_get (R : List (List Int)) (r k : Nat) : rw' (R.drop r) k = rw' R (r + k) := by
  unfold rw'
  rw [List.getD_eq_getElem?_getD, List.getElem?_drop, List.getD_eq_getElem?_getD]
theorem rows_ext {A B : List (List Int)} (n : Nat) (hl : A.length = B.length) (ha : ∀ i, i < A.length → (rw' A i).length = n) (hb : ∀ i, i < B.length → (rw' B i).length = n) (h : ∀ i, i < A.length → ∀ j, j < n → (rw' A i).getD j 0 = (rw' B i).getD j 0) : A = B := by
  apply List.ext_getElem hl
  intro i h1 h2
  have eA : rw' A i = A[i] := by unfold rw'; rw [List.getD_eq_getElem?_getD, List.getElem?_eq_getElem h1]; rfl
  have eB : rw' B i = B[i] := by unfold rw'; rw [List.getD_eq_getElem?_getD, List.getElem?_eq_getElem h2]; rfl
  rw [← eA, ← eB]
  apply List.ext_getElem (by rw [ha i h1, hb i h2])
  intro j g1 g2
  have := h i h1 j (by rw [← ha i h1]; exact g1)
  rw [List.getD_eq_getElem?_getD, List.getD_eq_getElem?_getD, List.getElem?_eq_getElem g1, List.getElem?_eq_getElem g2] at this
  exact this
/-- What the step leaves behind the row r. -/
theorem fin_eq {p : Int} {N n r b pl : Nat} {R : List (List Int)} (hp : primeB p = true) (h : RowsP p n R) (hN : R.length = N) (hb : r + b < N) (hpl : pl < n) :
    (upd p n r pl ((swp R r (r + b)).set r (scl p (rcp p ((rw' R (r + b)).getD pl 0)) (rw' R (r + b)) n)) N).drop (r + 1) = nxtR p n pl b (R.drop r) := by
  obtain ⟨p2, p97⟩ := primeB_two hp
  have hlen : ((swp R r (r + b)).set r (scl p (rcp p ((rw' R (r + b)).getD pl 0)) (rw' R (r + b)) n)).length = N := by rw [List.length_set, swp_len, hN]
  have hs : r < (swp R r (r + b)).length := by rw [swp_len]; omega
  have hol := h.len (r + b) (by omega)
  have hrow : ∀ i, r + 1 + i < N → rw' ((swp R r (r + b)).set r (scl p (rcp p ((rw' R (r + b)).getD pl 0)) (rw' R (r + b)) n)) (r + 1 + i) = rw' R (if i + 1 = b then r else r + 1 + i) := fun i hi => by
    rw [rw'_set _ _ _ _ hs, if_neg (by omega), swp_get _ _ _ _ (by omega) (by omega)]
    by_cases e : i + 1 = b
    · rw [if_pos (by omega), if_pos e]
    · rw [if_neg (by omega), if_neg (by omega), if_neg e]
  have hx : ∀ i, r + 1 + i < N → (if i + 1 = b then r else r + 1 + i) < R.length := fun i hi => by split <;> omega
  have hown : rw' ((swp R r (r + b)).set r (scl p (rcp p ((rw' R (r + b)).getD pl 0)) (rw' R (r + b)) n)) r = scl p (rcp p ((rw' R (r + b)).getD pl 0)) (rw' R (r + b)) n := by rw [rw'_set _ _ _ _ hs, if_pos rfl]
  have hL : ∀ i, i < N - (r + 1) → rw' ((upd p n r pl ((swp R r (r + b)).set r (scl p (rcp p ((rw' R (r + b)).getD pl 0)) (rw' R (r + b)) n)) N).drop (r + 1)) i = adr p (-((rw' R (if i + 1 = b then r else r + 1 + i)).getD pl 0)) (scl p (rcp p ((rw' R (r + b)).getD pl 0)) (rw' R (r + b)) n) (rw' R (if i + 1 = b then r else r + 1 + i)) n := fun i hi => by
    rw [drop_get, upd_get _ _ _ _ _ _ _ (by omega), if_pos ⟨by omega, by omega⟩, hrow i (by omega), hown]
  have hR : ∀ i, i < N - (r + 1) → rw' (nxtR p n pl b (R.drop r)) i = red p n pl (rcp p ((rw' R (r + b)).getD pl 0)) (rw' R (r + b)) (rw' R (if i + 1 = b then r else r + 1 + i)) := fun i hi => by
    rw [nxtR_get _ _ _ _ _ _ (by rw [List.length_drop]; omega), drop_get]
    congr 1
    by_cases e : i + 1 = b
    · rw [if_pos e, if_pos e, drop_get, Nat.add_zero]
    · rw [if_neg e, if_neg e, drop_get, show r + (i + 1) = r + 1 + i by omega]
  refine rows_ext n (by rw [List.length_drop, upd_len, hlen, nxtR_len, List.length_drop]; omega) (fun i hi => ?_) (fun i hi => ?_) (fun i hi j hj => ?_)
  · rw [List.length_drop, upd_len, hlen] at hi
    rw [hL i hi, adr_len]; exact h.len _ (hx i (by omega))
  · rw [nxtR_len, List.length_drop] at hi
    rw [hR i (by omega), red_len]
  · rw [List.length_drop, upd_len, hlen] at hi
    have hrl := h.len _ (hx i (by omega))
    rw [hL i hi, hR i hi, adr_get _ _ _ _ _ _ (by omega), if_pos hj, red_get _ _ _ _ _ _ _ hj, scl_get _ _ _ _ _ (by omega), if_pos hj]
    generalize rw' R (if i + 1 = b then r else r + 1 + i) = row
    generalize rw' R (r + b) = own
    generalize rcp p (own.getD pl 0) = rc
    rw [Int.mul_neg, ← Int.sub_eq_add_neg, Int.sub_emod, Int.sub_emod (row.getD j 0) (row.getD pl 0 * rc % p * own.getD j 0)]
    congr 2
    rw [Int.mul_emod, Int.emod_emod, ← Int.mul_emod, Int.mul_emod (row.getD pl 0 * rc % p), Int.emod_emod, ← Int.mul_emod]
    congr 1
    simp only [Int.mul_comm, Int.mul_left_comm, Int.mul_assoc]
end Go.Proofs.YtopenojociafaaaDoor
namespace Go.Proofs.YtopenojociafaaaDoor
open Go.RowKit
set_option linter.unusedVariables false
set_option linter.unusedSimpArgs false
/-- The rows behind the row r, k of them, with the row own taken away. -/
def updM (p : Int) (n r c : Nat) (rc : Int) (own : List Int) (R : List (List Int)) : Nat → List (List Int)
  | 0 => R
  | k + 1 => (updM p n r c rc own R k).set (r + 1 + k) (red p n c rc own (rw' R (r + 1 + k)))
theorem updM_len (p : Int) (n r c : Nat) (rc : Int) (own : List Int) (R : List (List Int)) (k : Nat) : (updM p n r c rc own R k).length = R.length := by
  induction k with
  | zero => rfl
  | succ k ih => rw [updM, List.length_set, ih]
theorem updM_get (p : Int) (n r c : Nat) (rc : Int) (own : List Int) (R : List (List Int)) (k i : Nat) (hk : r + 1 + k ≤ R.length) : rw' (updM p n r c rc own R k) i = if r + 1 ≤ i ∧ i < r + 1 + k then red p n c rc own (rw' R i) else rw' R i := by
  induction k with
  | zero => rw [updM, if_neg (by omega)]
  | succ k ih =>
    rw [updM, rw'_set _ _ _ _ (by rw [updM_len]; omega), ih (by omega)]
    by_cases e : i = r + 1 + k
    · subst e; rw [if_pos rfl, if_pos ⟨by omega, by omega⟩]
    · rw [if_neg e]
      by_cases h : r + 1 ≤ i ∧ i < r + 1 + k
      · rw [if_pos h, if_pos ⟨h.1, by omega⟩]
      · rw [if_neg h, if_neg (by omega)]
theorem red_bds (p : Int) (n c : Nat) (rc : Int) (own row : List Int) (hp : 2 ≤ p) (j : Nat) (hj : j < n) : 0 ≤ (red p n c rc own row).getD j 0 ∧ (red p n c rc own row).getD j 0 < p := by
  rw [red_get _ _ _ _ _ _ _ hj]
  exact ⟨Int.emod_nonneg _ (by omega), Int.emod_lt_of_pos _ (by omega)⟩
theorem list_ext0 {a b : List Int} (hl : a.length = b.length) (h : ∀ j, j < a.length → a.getD j 0 = b.getD j 0) : a = b := by
  apply List.ext_getElem hl
  intro j h1 h2
  have := h j h1
  rw [List.getD_eq_getElem?_getD, List.getD_eq_getElem?_getD, List.getElem?_eq_getElem h1, List.getElem?_eq_getElem h2] at this
  exact this
theorem red_zero (p : Int) (n c : Nat) (rc : Int) (own row : List Int) (hl : row.length = n) (hb : ∀ j, j < n → 0 ≤ row.getD j 0 ∧ row.getD j 0 < p) (h : row.getD c 0 * rc % p = 0) : red p n c rc own row = row := by
  refine list_ext0 (by rw [red_len, hl]) (fun j hj => ?_)
  rw [red_len] at hj
  rw [red_get _ _ _ _ _ _ _ hj, h, Int.zero_mul, Int.sub_zero]
  exact Int.emod_eq_of_lt (hb j hj).1 (hb j hj).2
theorem updM_ok {p : Int} {n : Nat} {R : List (List Int)} (hp : 2 ≤ p) (h : RowsP p n R) (r c : Nat) (rc : Int) (own : List Int) (k : Nat) (hk : r + 1 + k ≤ R.length) : RowsP p n (updM p n r c rc own R k) := by
  refine ⟨fun i hi => ?_, fun i j hi hj => ?_, fun i j _ hj => by omega⟩
  · rw [updM_len] at hi
    rw [updM_get _ _ _ _ _ _ _ _ _ hk]
    split
    · exact red_len _ _ _ _ _ _
    · exact h.len i hi
  · rw [updM_len] at hi
    rw [updM_get _ _ _ _ _ _ _ _ _ hk]
    split
    · exact red_bds _ _ _ _ _ _ hp j hj
    · exact h.bd i j hi hj
theorem fin_eqM {p : Int} {N n r b c : Nat} {R : List (List Int)} (h : RowsP p n R) (hN : R.length = N) (hb : r + b < N) (M : Nat) (hM : N - r = M + 1) :
    (updM p n r c (rcp p ((rw' R (r + b)).getD c 0)) (rw' R (r + b)) (swp R r (r + b)) M).drop (r + 1) = nxtR p n c b (R.drop r) := by
  have hs : r < (swp R r (r + b)).length := by rw [swp_len]; omega
  have hx : ∀ i, r + 1 + i < N → (if i + 1 = b then r else r + 1 + i) < R.length := fun i hi => by split <;> omega
  have hL : ∀ i, i < M → rw' ((updM p n r c (rcp p ((rw' R (r + b)).getD c 0)) (rw' R (r + b)) (swp R r (r + b)) M).drop (r + 1)) i = red p n c (rcp p ((rw' R (r + b)).getD c 0)) (rw' R (r + b)) (rw' R (if i + 1 = b then r else r + 1 + i)) := fun i hi => by
    rw [drop_get, updM_get _ _ _ _ _ _ _ _ _ (by rw [swp_len]; omega), if_pos ⟨by omega, by omega⟩, swp_get _ _ _ _ (by omega) (by omega)]
    congr 2
    by_cases e : i + 1 = b
    · rw [if_pos (by omega), if_pos e]
    · rw [if_neg (by omega), if_neg (by omega), if_neg e]
  have hR : ∀ i, i < M → rw' (nxtR p n c b (R.drop r)) i = red p n c (rcp p ((rw' R (r + b)).getD c 0)) (rw' R (r + b)) (rw' R (if i + 1 = b then r else r + 1 + i)) := fun i hi => by
    rw [nxtR_get _ _ _ _ _ _ (by rw [List.length_drop]; omega), drop_get]
    congr 1
    by_cases e : i + 1 = b
    · rw [if_pos e, if_pos e, drop_get, Nat.add_zero]
    · rw [if_neg e, if_neg e, drop_get, show r + (i + 1) = r + 1 + i by omega]
  refine rows_ext n (by rw [List.length_drop, updM_len, swp_len, nxtR_len, List.length_drop]; omega) (fun i hi => ?_) (fun i hi => ?_) (fun i hi j hj => ?_)
  · rw [List.length_drop, updM_len, swp_len] at hi
    rw [hL i (by omega), red_len]
  · rw [nxtR_len, List.length_drop] at hi
    rw [hR i (by omega), red_len]
  · rw [List.length_drop, updM_len, swp_len] at hi
    rw [hL i (by omega), hR i (by omega)]
theorem Own.neTy {w : World} {b b' : Nat} {cs cs' : Array Value} {t t' : TypeId} (h : Own w b cs t) (h' : Own w b' cs' t') (ht : t ≠ t') : b ≠ b' := by
  rintro rfl
  have : some (Obj.cells cs t (0, 0)) = some (Obj.cells cs' t' (0, 0)) := (show w.heap[b]? = _ from h).symm.trans h'
  simp at this
  exact ht this.2
/-- A table whose rows lie in blocks of their own. -/
structure Tbm (w : World) (g2 N n : Nat) (hs : List (Nat × Nat)) (R : List (List Int)) : Prop where
  lo : hs.length = N
  lr : R.length = N
  len : ∀ i, i < N → (rw' R i).length = n
  mem : ∃ cs : Array Value, Own w g2 cs 48 ∧ N ≤ cs.size ∧ ∀ i, i < N → cs[i]? = some (.slice (some ⟨(hs.getD i (0, 0)).1, 0, none⟩) n (hs.getD i (0, 0)).2)
  row : ∀ i, i < N → ∃ sp, Own w (hs.getD i (0, 0)).1 (scells (rw' R i) sp) 2
theorem Tbm.below {w w' : World} {g2 N n : Nat} {hs : List (Nat × Nat)} {R : List (List Int)} (h : Tbm w g2 N n hs R) (hb : Below w.heap.size w w') : Tbm w' g2 N n hs R := by
  obtain ⟨cs, a, b, c⟩ := h.mem
  exact ⟨h.lo, h.lr, h.len, ⟨cs, a.below hb a.lt, b, c⟩, fun i hi => by obtain ⟨sp, o⟩ := h.row i hi; exact ⟨sp, o.below hb o.lt⟩⟩
theorem Tbm.drew {w : World} {g2 N n : Nat} {hs : List (Nat × Nat)} {R : List (List Int)} (h : Tbm w g2 N n hs R) : Tbm { w with drawn := w.drawn + 1 } g2 N n hs R := by
  obtain ⟨cs, a, b, c⟩ := h.mem
  exact ⟨h.lo, h.lr, h.len, ⟨cs, a, b, c⟩, fun i hi => h.row i hi⟩
theorem Tbm.alloc {w : World} {g2 N n : Nat} {hs : List (Nat × Nat)} {R : List (List Int)} (h : Tbm w g2 N n hs R) (o : Obj) : Tbm (w.alloc o) g2 N n hs R := h.below ((Below.refl _ w).alloc (Nat.le_refl _) o)
theorem Tbm.head {w : World} {g2 N n : Nat} {hs : List (Nat × Nat)} {R : List (List Int)} (h : Tbm w g2 N n hs R) (i : Nat) (hi : i < N) : w.cell? ⟨g2, i, none⟩ = some (.slice (some ⟨(hs.getD i (0, 0)).1, 0, none⟩) n (hs.getD i (0, 0)).2) := by
  obtain ⟨cs, a, b, c⟩ := h.mem
  rw [a.cell]; exact c i hi
theorem Tbm.num {w : World} {g2 N n : Nat} {hs : List (Nat × Nat)} {R : List (List Int)} (h : Tbm w g2 N n hs R) (i j : Nat) (hi : i < N) (hj : j < n) : w.cell? ⟨(hs.getD i (0, 0)).1, j, none⟩ = some (.int .i64 ((rw' R i).getD j 0)) := by
  obtain ⟨sp, o⟩ := h.row i hi
  rw [o.cell, scells_get _ _ _ (by rw [h.len i hi]; exact hj)]
theorem Tbm.free {w : World} {g2 N n : Nat} {hs : List (Nat × Nat)} {R : List (List Int)} (h : Tbm w g2 N n hs R) (i : Nat) : w.frozen? ⟨g2, i, none⟩ = false := by
  obtain ⟨cs, a, b, c⟩ := h.mem
  exact a.free i
theorem Tbm.lt {w : World} {g2 N n : Nat} {hs : List (Nat × Nat)} {R : List (List Int)} (h : Tbm w g2 N n hs R) : g2 < w.heap.size := by
  obtain ⟨cs, a, b, c⟩ := h.mem
  exact a.lt
theorem pair_set (hs : List (Nat × Nat)) (i k : Nat) (x : Nat × Nat) (h : i < hs.length) : (hs.set i x).getD k (0, 0) = if k = i then x else hs.getD k (0, 0) := by
  rw [List.getD_eq_getElem?_getD, List.getElem?_set]
  by_cases e : i = k
  · subst e; simp [h]
  · rw [if_neg e, if_neg (fun x => e x.symm), List.getD_eq_getElem?_getD]
/-- A row is put in the place of another one. -/
theorem Tbm.put {w : World} {g2 N n : Nat} {hs : List (Nat × Nat)} {R : List (List Int)} (h : Tbm w g2 N n hs R) (i g cap : Nat) (row : List Int) (sp : List Value) (hi : i < N) (hl : row.length = n) (ho : Own w g (scells row sp) 2) : Tbm (w.setCell ⟨g2, i, none⟩ (.slice (some ⟨g, 0, none⟩) n cap)) g2 N n (hs.set i (g, cap)) (R.set i row) := by
  obtain ⟨cs, a, b, c⟩ := h.mem
  have hR : i < R.length := by rw [h.lr]; exact hi
  have hH : i < hs.length := by rw [h.lo]; exact hi
  have hn : ∀ {g' : Nat} {cs' : Array Value}, Own w g' cs' 2 → Own (w.setCell ⟨g2, i, none⟩ (.slice (some ⟨g, 0, none⟩) n cap)) g' cs' 2 := fun o => o.other (fun e => Own.neTy a o (by decide) e) _
  refine ⟨by rw [List.length_set]; exact h.lo, by rw [List.length_set]; exact h.lr, fun k hk => ?_, ⟨_, a.set i _, by simpa using b, fun k hk => ?_⟩, fun k hk => ?_⟩
  · rw [rw'_set _ _ _ _ hR]
    split
    · exact hl
    · exact h.len k hk
  · rw [pair_set _ _ _ _ hH]
    by_cases e : k = i
    · subst e
      rw [if_pos rfl, Array.getElem?_setIfInBounds_self, if_pos (by omega)]
    · rw [if_neg e, Array.getElem?_setIfInBounds_ne (fun x => e x.symm)]
      exact c k hk
  · rw [rw'_set _ _ _ _ hR, pair_set _ _ _ _ hH]
    by_cases e : k = i
    · rw [if_pos e, if_pos e]; exact ⟨sp, hn ho⟩
    · rw [if_neg e, if_neg e]
      obtain ⟨sp', o⟩ := h.row k hk
      exact ⟨sp', hn o⟩
theorem Tbm.swap {w : World} {g2 N n : Nat} {hs : List (Nat × Nat)} {R : List (List Int)} (h : Tbm w g2 N n hs R) (b r : Nat) (hb : b < N) (hr : r < N) (hbr : b ≠ r) (gb cb gr cr : Nat) (eb : hs.getD b (0, 0) = (gb, cb)) (er : hs.getD r (0, 0) = (gr, cr)) :
    Tbm ((w.setCell ⟨g2, b, none⟩ (.slice (some ⟨gr, 0, none⟩) n cr)).setCell ⟨g2, r, none⟩ (.slice (some ⟨gb, 0, none⟩) n cb)) g2 N n ((hs.set b (gr, cr)).set r (gb, cb)) (swp R r b) := by
  obtain ⟨sb, ob⟩ := h.row b hb
  obtain ⟨sr, or⟩ := h.row r hr
  rw [eb] at ob
  rw [er] at or
  have h1 := h.put b gr cr (rw' R r) sr hb (h.len r hr) or
  obtain ⟨cs, a, _, _⟩ := h.mem
  have ob' := ob.other (a := ⟨g2, b, none⟩) (fun e => Own.neTy a ob (by decide) e) (.slice (some ⟨gr, 0, none⟩) n cr)
  have h2 := h1.put r gb cb (rw' R b) sb hr (h.len b hb) ob'
  have e : (R.set b (rw' R r)).set r (rw' R b) = swp R r b := by
    unfold swp
    rw [if_neg hbr]
    exact List.set_comm _ _ hbr
  rw [e] at h2
  exact h2
end Go.Proofs.YtopenojociafaaaDoor
namespace Go.Proofs.YtopenojociafaaaDoor
open Go.RowKit
set_option linter.unusedVariables false
set_option linter.unusedSimpArgs false
theorem Ints.row {w : World} {base g cap : Nat} {xs : List Int} (h : Ints w base g cap xs) : ∃ sp, Own w g (scells xs sp) 2 := by
  obtain ⟨_, h2, _, cur, ho, hs, ht⟩ := h
  refine ⟨cur.toList.drop xs.length, ?_⟩
  unfold scells
  rw [← ht, List.take_append_drop]
  exact ho
/-- Every two of these slices lie in blocks of their own. -/
def Dst (vs : List Value) : Prop := ∀ i j gi ci gj cj ni nj : Nat, i < j → vs[i]? = some (.slice (some ⟨gi, 0, none⟩) ni ci) → vs[j]? = some (.slice (some ⟨gj, 0, none⟩) nj cj) → gi ≠ gj
theorem Dst.snoc {vs : List Value} (h : Dst vs) (g n c S : Nat) (hS : S ≤ g) (hl : ∀ i gi ci ni : Nat, vs[i]? = some (.slice (some ⟨gi, 0, none⟩) ni ci) → gi < S) : Dst (vs ++ [.slice (some ⟨g, 0, none⟩) n c]) := by
  intro i j gi ci gj cj ni nj hij h1 h2
  by_cases hj : j < vs.length
  · rw [List.getElem?_append_left (by omega)] at h1
    rw [List.getElem?_append_left hj] at h2
    exact h i j gi ci gj cj ni nj hij h1 h2
  · rw [List.getElem?_append_right (by omega)] at h2
    by_cases e : j = vs.length
    · subst e
      rw [Nat.sub_self] at h2
      simp at h2
      rw [List.getElem?_append_left (by omega)] at h1
      have := hl i gi ci ni h1
      omega
    · rw [List.getElem?_eq_none (by simp; omega)] at h2
      cases h2
/-- The first k rows are there: the numbers R i. -/
def RwG (w : World) (B : Nat) (R : Nat → List Int) (n : Nat) (vs : List Value) (k : Nat) : Prop :=
  ∀ i, i < k → ∃ g cap, vs[i]? = some (.slice (some ⟨g, 0, none⟩) n cap) ∧ Ints w B g cap (R i)
theorem RwG.below {w w' : World} {B n k : Nat} {R : Nat → List Int} {vs : List Value} (h : RwG w B R n vs k) (hb : Below w.heap.size w w') : RwG w' B R n vs k := fun i hi => by
  obtain ⟨g, cap, g1, g2⟩ := h i hi
  exact ⟨g, cap, g1, g2.below hb g2.lt⟩
theorem RwG.base {w : World} {B B' n k : Nat} {R : Nat → List Int} {vs : List Value} (h : RwG w B R n vs k) (hb : B' ≤ B) : RwG w B' R n vs k := fun i hi => by
  obtain ⟨g, cap, g1, g2⟩ := h i hi
  exact ⟨g, cap, g1, g2.rebase hb⟩
/-- Where the rows lie. -/
def hsOf (vs : List Value) : List (Nat × Nat) := vs.map (fun v => match v with | .slice (some a) _ c => (a.block, c) | _ => (0, 0))
theorem hsOf_get {vs : List Value} {i g n c : Nat} (h : vs[i]? = some (.slice (some ⟨g, 0, none⟩) n c)) : (hsOf vs).getD i (0, 0) = (g, c) := by
  simp [hsOf, List.getD_eq_getElem?_getD, h]
theorem tbm_ofG {w : World} {B n : Nat} {R : Nat → List Int} {v : Value} {vs : List Value} (hR : Rws w B v vs) (hl : vs.length = n) (h0 : 1 ≤ n) (hT : RwG w B R n vs n) (hrl : ∀ i, (R i).length = n) (hD : Dst vs) :
    ∃ g2 cap, v = .slice (some ⟨g2, 0, none⟩) n cap ∧ B ≤ g2 ∧ Tbm w g2 n n (hsOf vs) ((List.range n).map R) ∧ (∀ i, i < n → B ≤ ((hsOf vs).getD i (0, 0)).1) ∧ ∀ i j, i < n → j < n → i ≠ j → ((hsOf vs).getD i (0, 0)).1 ≠ ((hsOf vs).getD j (0, 0)).1 := by
  have hrow : ∀ i, i < n → rw' ((List.range n).map R) i = R i := fun i hi => by simp [rw', List.getD_eq_getElem?_getD, hi]
  obtain ⟨_, ⟨rfl, hv⟩ | ⟨g, cap, cur, hv, hg, hh, hn, hcap, hsz, htake⟩⟩ := hR
  · exfalso
    have : vs = [] := List.length_eq_zero_iff.1 hv
    subst this
    simp at hl
    omega
  · have ht : cur.toList.take vs.length = vs := by simpa using htake
    have hcur : ∀ i, i < n → cur[i]? = vs[i]? := fun i hi => by
      have e : (cur.toList.take vs.length)[i]? = vs[i]? := by rw [ht]
      rw [List.getElem?_take_of_lt (by omega)] at e
      simpa using e
    refine ⟨g, cap, by rw [hv, hl], hg, ⟨by simp [hsOf, hl], by simp, fun i hi => by rw [hrow i hi]; exact hrl i, ⟨cur, hh, by simp at hsz; omega, fun i hi => ?_⟩, fun i hi => ?_⟩, fun i hi => ?_, fun i j hi hj hij => ?_⟩
    · obtain ⟨ga, ca, h1, h2⟩ := hT i hi
      rw [hcur i hi, hsOf_get h1, h1]
    · obtain ⟨ga, ca, h1, h2⟩ := hT i hi
      rw [hsOf_get h1, hrow i hi]
      exact h2.row
    · obtain ⟨ga, ca, h1, h2⟩ := hT i hi
      rw [hsOf_get h1]
      exact h2.1
    · obtain ⟨ga, ca, h1, h2⟩ := hT i hi
      obtain ⟨gb, cb, h3, h4⟩ := hT j hj
      rw [hsOf_get h1, hsOf_get h3]
      rcases Nat.lt_or_gt_of_ne hij with h | h
      · exact hD i j ga ca gb cb n n h h1 h3
      · exact (hD j i gb cb ga ca n n h h3 h1).symm
end Go.Proofs.YtopenojociafaaaDoor
namespace Go.Proofs.YtopenojociafaaaDoor
open Go.RowKit
set_option linter.unusedVariables false
set_option linter.unusedSimpArgs false
set_option maxRecDepth 100000 in
theorem powS_any (p k : Int) (n : Nat) (w : World) (hp : 2 ≤ p) (hp2 : p ≤ 97) (hk0 : 0 ≤ k) (hk1 : k < p) (hn : n ≤ 1000) :
    Calls Tryd.prog 45 #[.int .i64 p, .int .i64 k, .int .i64 n] w fun e w' => e = .returned (.int .i64 (pw p k n)) ∧ w = w' := by
  have e0 : (p == 0) = false := by simp; omega
  have e1 : Int.tmod 1 p = 1 := by rw [Int.tmod_eq_emod_of_nonneg (by omega)]; exact Int.emod_eq_of_lt (by omega) (by omega)
  have hr := Lib.hid (pw_range p k hp)
  go_enter Tryd.func45, Tryd.ntmps45
  go_wp2
  go_loopw [2, 7] (fun i v wr => ∃ j : Nat, j ≤ n ∧ i = .int .i64 ((n - j : Nat) : Int) ∧ v = .int .i64 (pw p k j) ∧ wr = w) (fun i _ _ => (intOf i).toNat)
  case atStart => exact ⟨0, by omega, rfl, rfl, rfl⟩
  case round =>
    obtain ⟨j, hj, rfl, rfl, rfl⟩ := hrel
    by_cases hlt : j < n
    · obtain ⟨m, hm⟩ : ∃ m, n - j = m + 1 := ⟨n - j - 1, by omega⟩
      rw [hm]
      have r := hr.out j
      have m1 := bnd_mul p (pw p k j) k 0 hp hp2 r.1 r.2 hk0 hk1
      have hx : Hid (pw p k (j + 1) = pw p k j * k % p) := Lib.hid rfl
      have hm' := Lib.hid (show m = n - (j + 1) by omega)
      generalize pw p k j = x at *
      go_wp2
      go_roundw
      case rel => exact ⟨j + 1, by omega, by rw [← hm'.out] <;> simp, by rw [hx.out], trivial⟩
      case measure => simp [intOf]
    · obtain rfl : j = n := by omega
      rw [Nat.sub_self]
      go_wp2
      go_ret
      exact ⟨rfl, rfl⟩
theorem numS_any (p c : Int) (w : World) (hp : -9223372036854775808 ≤ p ∧ p ≤ 9223372036854775807) : Calls Tryd.prog 41 #[.int .i64 p, .int .i64 c] w fun e w' => e = .returned (.bool (primeB p && decide (0 ≤ c ∧ c < p))) ∧ w' = w := by
  have hq := Lib.hid (fun w => primeS_any p w hp)
  cases hb : primeB p with
  | false =>
    rw [hb] at hq
    rw [Bool.false_and]
    clear hb
    go_enter Tryd.func41, Tryd.ntmps41
    go_wp2_with (first
      | (go_at_call 64; ((with_reducible refine (hq.out _).mono ?_); rintro e w1 ⟨rfl, rfl⟩)))
    go_ret
    exact ⟨rfl, rfl⟩
  | true =>
    have h2 := primeB_two hb
    rw [hb] at hq
    rw [Bool.true_and]
    clear hb
    by_cases h : 0 ≤ c ∧ c < p
    · rw [show decide (0 ≤ c ∧ c < p) = true by simp; omega]
      go_enter Tryd.func41, Tryd.ntmps41
      go_wp2_with (first
        | (go_at_call 64; ((with_reducible refine (hq.out _).mono ?_); rintro e w1 ⟨rfl, rfl⟩))
        | (go_at_call 65; ((with_reducible refine (inS_t c 0 (p - 1) _ (by omega) (by omega)).mono ?_); rintro e w1 ⟨rfl, rfl⟩)))
      go_ret
      exact ⟨rfl, rfl⟩
    · rw [show decide (0 ≤ c ∧ c < p) = false by simp; omega]
      have h' := Lib.hid (show c < 0 ∨ p - 1 < c by omega)
      go_enter Tryd.func41, Tryd.ntmps41
      go_wp2_with (first
        | (go_at_call 64; ((with_reducible refine (hq.out _).mono ?_); rintro e w1 ⟨rfl, rfl⟩))
        | (go_at_call 65; ((with_reducible refine (inS_f c 0 (p - 1) _ h'.out).mono ?_); rintro e w1 ⟨rfl, rfl⟩)))
      go_ret
      exact ⟨rfl, rfl⟩
end Go.Proofs.YtopenojociafaaaDoor
