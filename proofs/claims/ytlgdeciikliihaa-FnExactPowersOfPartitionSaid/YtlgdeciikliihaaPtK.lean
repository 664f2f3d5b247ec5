/- Plain mathematics: the model's lists in a product of partitions. -/
import Derived.Test.YtlgdeciikliihaaPtN
namespace Go.Proofs.Ytlgdeciikliihaa
open Go.RowKit
set_option linter.unusedVariables false
/-- The first k leaders, and zeros behind them. -/
def ldI (k : Nat) : List Int := (List.range 16).map (fun j : Nat => if j < k then (j : Int) else 0)
theorem ldI_len (k : Nat) : (ldI k).length = 16 := by simp [ldI]
theorem ldI_zero : ldI 0 = List.replicate 16 0 := by decide
theorem ldI_step : ∀ k, k < 16 → (ldI k).set k (k : Int) = ldI (k + 1) := by decide
theorem ldI_end : ldI 16 = ids := by decide
/-- Leaders of which the first k have been joined. -/
def mgk (L : List Int) (one two : Int) (k : Nat) : List Int := (L.take k).map (fun v => if v = two then one else v) ++ L.drop k
theorem mgk_len (L : List Int) (one two : Int) (k : Nat) (h : k ≤ L.length) : (mgk L one two k).length = L.length := by simp [mgk]; omega
theorem mgk_zero (L : List Int) (one two : Int) : mgk L one two 0 = L := by simp [mgk]
theorem mgk_end (L : List Int) (x y : Nat) : mgk L (L.getD x 0) (L.getD y 0) L.length = mrg L x y := by simp [mgk, mrg]
theorem mgk_get (L : List Int) (one two : Int) (k : Nat) (h : k < L.length) : (mgk L one two k).getD k 0 = L.getD k 0 := by
  unfold mgk
  rw [List.getD_eq_getElem?_getD, List.getElem?_append_right (by simp; omega)]
  have : k - ((L.take k).map (fun v => if v = two then one else v)).length = 0 := by simp; omega
  rw [this, List.getElem?_drop, List.getD_eq_getElem?_getD]; rfl
theorem mgk_step (L : List Int) (one two : Int) (k : Nat) (h : k < L.length) : (mgk L one two k).set k (if L.getD k 0 = two then one else L.getD k 0) = mgk L one two (k + 1) := by
  unfold mgk
  rw [List.set_append_right _ _ (by simp; omega)]
  have : k - ((L.take k).map (fun v => if v = two then one else v)).length = 0 := by simp; omega
  rw [this, List.drop_eq_getElem_cons h, List.set_cons_zero, take_succ L k h, List.map_append, List.append_assoc]
  rfl
theorem mgk_same (L : List Int) (one two : Int) (k : Nat) (h : k < L.length) (he : L.getD k 0 ≠ two) : mgk L one two (k + 1) = mgk L one two k := by
  have := mgk_step L one two k h
  rw [if_neg he] at this
  rw [← this]
  apply List.ext_getElem?
  intro i
  rw [List.getElem?_set]
  split
  · rename_i e
    subst e
    have g := mgk_get L one two k h
    rw [mgk_len _ _ _ _ (by omega), if_pos h]
    rw [← g, List.getD_eq_getElem?_getD, List.getElem?_eq_getElem (by rw [mgk_len _ _ _ _ (by omega)]; exact h)]; rfl
  · rfl
/-- Which labels are among the first k. -/
def kp (zs : List Int) (k : Nat) : List Bool := (List.range 16).map (fun v : Nat => decide ((v : Int) ∈ zs.take k))
theorem kp_len (zs : List Int) (k : Nat) : (kp zs k).length = 16 := by simp [kp]
theorem kp_zero (zs : List Int) : kp zs 0 = List.replicate 16 false := by simp [kp]; rfl
theorem kp_get (zs : List Int) (k v : Nat) (h : v < 16) : (kp zs k).getD v false = decide ((v : Int) ∈ zs.take k) := by
  rw [List.getD_eq_getElem?_getD]; simp [kp, h]
theorem kp_seen (zs : List Int) (k : Nat) (hk : k ≤ zs.length) (x : Int) (h0 : 0 ≤ x) (h2 : x < 16) : (kp zs k).getD x.toNat false = decide (fi zs x < k) := by
  rw [kp_get _ _ _ (by omega), decide_eq_decide, show ((x.toNat : Nat) : Int) = x by omega]
  exact fi_mem zs x k hk
theorem kp_step (zs : List Int) (k : Nat) (hk : k < zs.length) (h0 : 0 ≤ zs.getD k 0) (h2 : zs.getD k 0 < 16) : (kp zs k).set (zs.getD k 0).toNat true = kp zs (k + 1) := by
  apply List.ext_getElem?
  intro v
  by_cases hv : v < 16
  · have e1 : (kp zs (k + 1))[v]? = some (decide ((v : Int) ∈ zs.take (k + 1))) := by simp [kp, hv]
    have e2 : (kp zs k)[v]? = some (decide ((v : Int) ∈ zs.take k)) := by simp [kp, hv]
    rw [e1, List.getElem?_set, kp_len, e2, take_succ zs k hk]
    by_cases e : (zs.getD k 0).toNat = v
    · rw [if_pos e, if_pos (by omega)]
      have heq : (v : Int) = zs.getD k 0 := by omega
      congr 1
      symm
      rw [decide_eq_true_iff, List.mem_append, List.mem_singleton]
      exact .inr heq
    · rw [if_neg e]
      have hne : ¬ (v : Int) = zs.getD k 0 := by omega
      congr 1
      rw [decide_eq_decide, List.mem_append, List.mem_singleton]
      exact ⟨.inl, fun h => h.resolve_right hne⟩
  · rw [List.getElem?_eq_none (by rw [List.length_set, kp_len]; omega), List.getElem?_eq_none (by rw [kp_len]; omega)]
theorem kp_same (zs : List Int) (k : Nat) (hk : k < zs.length) (h : fi zs (zs.getD k 0) < k) : kp zs (k + 1) = kp zs k := by
  unfold kp
  apply List.map_congr_left
  intro v _
  rw [decide_eq_decide, take_succ zs k hk, List.mem_append, List.mem_singleton]
  constructor
  · rintro (h1 | h1)
    · exact h1
    · rw [h1]; exact (fi_mem zs _ k (by omega)).2 h
  · exact .inl
end Go.Proofs.Ytlgdeciikliihaa
