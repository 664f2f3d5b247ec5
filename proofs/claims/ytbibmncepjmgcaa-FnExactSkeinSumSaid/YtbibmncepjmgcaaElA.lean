/- The model's IsElement, whole. -/
import Derived.Test.YtbibmncepjmgcaaElS
namespace Go.Proofs.Ytbibmncepjmgcaa
open Go.RowKit Go.BigFrame
set_option linter.unusedVariables false
set_option maxRecDepth 100000 in
set_option maxHeartbeats 2000000 in
theorem elS_head (p c n : Int) (q : Option Addr) (cap : Nat) (ts : List Tm) (hx : ts.length ≤ 1048576) (w : World) (hp0 : -9223372036854775808 ≤ p ∧ p ≤ 9223372036854775807) (h : (primeB p && decide (0 ≤ c ∧ c < p)) = false ∨ ¬ (1 ≤ n ∧ n ≤ 8) ∨ 140 < ts.length) :
    Calls Try.prog 30 #[.agg (ecl p c n (.slice q ts.length cap))] w fun e w' => e = .returned (.bool false) ∧ Below w.heap.size w w' := by
  have hm := Lib.hid (fun w => primeS_any p w hp0)
  obtain ⟨l, hl⟩ : ∃ l, ts.length = l := ⟨_, rfl⟩
  rw [hl] at h hx ⊢
  unfold ecl
  cases hpr : primeB p with
  | false =>
    rw [hpr] at hm
    clear h hpr
    go_enter Try.func30, Try.ntmps30
    go_wp2_with (first
      | (go_at_call 65; ((with_reducible refine (hm.out _).mono ?_); rintro e w1 ⟨rfl, hw⟩; subst hw)))
    go_ret
    exact ⟨rfl, (Below.refl _ _).alloc (Nat.le_refl _) _⟩
  | true =>
    have p2 : 2 ≤ p ∧ p ≤ 97 := by unfold primeB at hpr; rw [decide_eq_true_iff] at hpr; exact ⟨hpr.1, hpr.2.1⟩
    obtain ⟨p2, p97⟩ := p2
    rw [hpr, Bool.true_and, decide_eq_false_iff_not] at h
    rw [hpr] at hm
    clear hpr
    by_cases hc : 0 ≤ c ∧ c < p
    · by_cases hn : 1 ≤ n ∧ n ≤ 8
      · have h140 : (140 : Int) < (l : Int) := by
          rcases h with h | h | h
          · exact absurd hc h
          · exact absurd hn h
          · omega
        clear h
        go_enter Try.func30, Try.ntmps30
        go_wp2_with (first
          | (go_at_call 65; ((with_reducible refine (hm.out _).mono ?_); rintro e w1 ⟨rfl, hw⟩; subst hw))
          | (go_at_call 54; ((with_reducible refine (inS_t c 0 (p - 1) _ (by omega) (by omega)).mono ?_); rintro e w2 ⟨rfl, rfl⟩))
          | (go_at_call 54; ((with_reducible refine (inS_t n 1 8 _ (by omega) (by omega)).mono ?_); rintro e w2 ⟨rfl, rfl⟩)))
        go_ret
        exact ⟨rfl, (Below.refl _ _).alloc (Nat.le_refl _) _⟩
      · have hn' := Lib.hid (show n < 1 ∨ 8 < n by omega)
        clear h hn
        go_enter Try.func30, Try.ntmps30
        go_wp2_with (first
          | (go_at_call 65; ((with_reducible refine (hm.out _).mono ?_); rintro e w1 ⟨rfl, hw⟩; subst hw))
          | (go_at_call 54; ((with_reducible refine (inS_t c 0 (p - 1) _ (by omega) (by omega)).mono ?_); rintro e w2 ⟨rfl, rfl⟩))
          | (go_at_call 54; ((with_reducible refine (inS_f n 1 8 _ hn'.out).mono ?_); rintro e w2 ⟨rfl, rfl⟩)))
        go_ret
        exact ⟨rfl, (Below.refl _ _).alloc (Nat.le_refl _) _⟩
    · have hc' := Lib.hid (show c < 0 ∨ p - 1 < c by omega)
      clear h hc
      go_enter Try.func30, Try.ntmps30
      go_wp2_with (first
        | (go_at_call 65; ((with_reducible refine (hm.out _).mono ?_); rintro e w1 ⟨rfl, hw⟩; subst hw))
        | (go_at_call 54; ((with_reducible refine (inS_f c 0 (p - 1) _ hc'.out).mono ?_); rintro e w2 ⟨rfl, rfl⟩)))
      go_ret
      exact ⟨rfl, (Below.refl _ _).alloc (Nat.le_refl _) _⟩
theorem elS_any (p c n : Int) (q : Option Addr) (cap : Nat) (ts : List Tm) (hts : ∀ t ∈ ts, t.2.1.length = 16 ∧ Bytes t.2.1) (hx : ts.length ≤ 1048576) (hp0 : -9223372036854775808 ≤ p ∧ p ≤ 9223372036854775807) (w : World) (hR : RdT w q ts) :
    Calls Try.prog 30 #[.agg (ecl p c n (.slice q ts.length cap))] w fun e w' => e = .returned (.bool (elB p c n ts)) ∧ Below w.heap.size w w' := by
  by_cases h : (primeB p && decide (0 ≤ c ∧ c < p)) = false ∨ ¬ (1 ≤ n ∧ n ≤ 8) ∨ 140 < ts.length
  · have he : elB p c n ts = false := by
      unfold elB
      rcases h with h | h | h
      · rw [h, Bool.false_and]
      · rw [decide_eq_false h, Bool.false_and, Bool.and_false]
      · rw [decide_eq_false (show ¬ ts.length ≤ 140 by omega), Bool.false_and, Bool.and_false, Bool.and_false]
    rw [he]; exact elS_head p c n q cap ts hx w hp0 h
  · have h1 : (primeB p && decide (0 ≤ c ∧ c < p)) = true := by
      cases hb : (primeB p && decide (0 ≤ c ∧ c < p)) with
      | true => rfl
      | false => exact absurd (.inl hb) h
    have h2 : 1 ≤ n ∧ n ≤ 8 := Decidable.byContradiction fun hn => h (.inr (.inl hn))
    have h3 : ts.length ≤ 140 := by
      refine Decidable.byContradiction fun hn => h (.inr (.inr (by omega)))
    have he : elB p c n ts = elT n p ts ts.length := by
      unfold elB; rw [h1, decide_eq_true h2, decide_eq_true h3]; rfl
    rw [he]; exact elS_loop p c n q cap ts hts w hR hp0 h1 h2.1 h2.2 h3
end Go.Proofs.Ytbibmncepjmgcaa
