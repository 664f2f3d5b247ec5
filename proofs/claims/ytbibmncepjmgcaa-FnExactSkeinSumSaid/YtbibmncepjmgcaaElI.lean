/- Plain test for elements, and the contract of the program's IsElement. -/
import Derived.Test.YtbibmncepjmgcaaKc
import Derived.Test.YtbibmncepjmgcaaKb
namespace Go.Proofs.Ytbibmncepjmgcaa
open Go.RowKit
def tOk (n p : Int) (t : Tm) : Bool := decide (t.1 = n) && isD t.1 t.2.1 && decide (1 ≤ t.2.2 ∧ t.2.2 < p)
def ltT (s t : Tm) : Bool := Op.bytesLess (textS s.1 s.2.1).toList (textS t.1 t.2.1).toList
/-- The first k terms are in order and are terms. -/
def elT (n p : Int) (ts : List Tm) : Nat → Bool
  | 0 => true
  | k + 1 => elT n p ts k && (tOk n p (ts.getD k zT) && (decide (k = 0) || ltT (ts.getD (k - 1) zT) (ts.getD k zT)))
def elB (p c n : Int) (ts : List Tm) : Bool := (primeB p && decide (0 ≤ c ∧ c < p)) && (decide (1 ≤ n ∧ n ≤ 8) && (decide (ts.length ≤ 140) && elT n p ts ts.length))
theorem elT_no {n p : Int} {ts : List Tm} {k m : Nat} (h : elT n p ts k = false) (hm : k ≤ m) : elT n p ts m = false := by
  induction m with
  | zero => have : k = 0 := by omega
            subst this; exact h
  | succ m ih =>
    by_cases e : k = m + 1
    · subst e; exact h
    · rw [elT, ih (by omega), Bool.false_and]
theorem elT_ok {n p : Int} {ts : List Tm} {k : Nat} (h : elT n p ts k = true) (j : Nat) (hj : j < k) : tOk n p (ts.getD j zT) = true := by
  induction k with
  | zero => omega
  | succ k ih =>
    rw [elT, Bool.and_eq_true, Bool.and_eq_true] at h
    by_cases e : j = k
    · subst e; exact h.2.1
    · exact ih h.1 (by omega)
theorem row29 {c : Array Value} (h : c.size = 4) : (Try.prog.info? 30).map (·.size) = some c.size := by rw [h]; kernel_rfl
set_option maxRecDepth 100000 in
set_option maxHeartbeats 2000000 in
theorem elI_head (p c n : Int) (q : Option Addr) (cap : Nat) (ts : List Tm) (hx : ts.length ≤ 1048576) (w : World) (h : (primeB p && decide (0 ≤ c ∧ c < p)) = false ∨ ¬ (1 ≤ n ∧ n ≤ 8) ∨ 140 < ts.length) :
    Calls Try.prog 36 #[.agg (ecl p c n (.slice q ts.length cap))] w fun e w' => e = .returned (.bool false) ∧ Below w.heap.size w w' := by
  have hm := Lib.hid (fun w => modI_any p c w)
  obtain ⟨b, hb⟩ : ∃ b, (primeB p && decide (0 ≤ c ∧ c < p)) = b := ⟨_, rfl⟩
  obtain ⟨l, hl⟩ : ∃ l, ts.length = l := ⟨_, rfl⟩
  rw [hb] at hm h
  rw [hl] at h hx ⊢
  unfold ecl
  cases b with
  | false =>
    clear h
    go_enter Try.func36, Try.ntmps36
    go_wp2_with (first
      | (go_at_call 73; ((with_reducible refine (hm.out _).mono ?_); rintro e w1 ⟨rfl, hw⟩; subst hw)))
    go_ret
    exact ⟨rfl, (Below.refl _ _).alloc (Nat.le_refl _) _⟩
  | true =>
    by_cases hn : 1 ≤ n ∧ n ≤ 8
    · obtain ⟨n1, n8⟩ := hn
      have h140 : (140 : Int) < (l : Int) := by
        rcases h with h | h | h
        · cases h
        · omega
        · omega
      clear h
      go_enter Try.func36, Try.ntmps36
      go_wp2_with (first
        | (go_at_call 73; ((with_reducible refine (hm.out _).mono ?_); rintro e w1 ⟨rfl, hw⟩; subst hw))
        | (go_at_call 74; ((with_reducible refine (isSize_t _ _ n1 n8).mono ?_); rintro e w2 ⟨rfl, rfl⟩)))
      go_ret
      exact ⟨rfl, (Below.refl _ _).alloc (Nat.le_refl _) _⟩
    · have hn' : n < 1 ∨ 8 < n := by omega
      clear h hn
      go_enter Try.func36, Try.ntmps36
      go_wp2_with (first
        | (go_at_call 73; ((with_reducible refine (hm.out _).mono ?_); rintro e w1 ⟨rfl, hw⟩; subst hw))
        | (go_at_call 74; ((with_reducible refine (isSize_f _ _ hn').mono ?_); rintro e w2 ⟨rfl, rfl⟩)))
      go_ret
      exact ⟨rfl, (Below.refl _ _).alloc (Nat.le_refl _) _⟩
end Go.Proofs.Ytbibmncepjmgcaa
