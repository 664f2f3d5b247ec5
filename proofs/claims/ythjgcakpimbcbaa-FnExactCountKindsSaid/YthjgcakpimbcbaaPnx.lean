/- The next place of a part: the program's reading. -/
import Derived.Test.YthjgcakpimbcbaaPla
namespace Go.Proofs.Ythjgcakpimbcbaa
open Go.RowKit
set_option linter.unusedVariables false
def rot (a : List Int) (m k : Nat) : List Int := (List.range m).map fun d => a.getD ((k + 1 + d) % m) 0
theorem rot_len (a : List Int) (m k : Nat) : (rot a m k).length = m := by simp [rot]
theorem rot_get (a : List Int) (m k d : Nat) (h : d < m) : (rot a m k).getD d 0 = a.getD ((k + 1 + d) % m) 0 := by
  unfold rot
  rw [List.getD_eq_getElem?_getD, List.getElem?_map, List.getElem?_range h]
  rfl
/-- The place behind k that has the same part. -/
def nx (a : List Int) (m k : Nat) : Nat := (k + 1 + fi (rot a m k) (a.getD k 0)) % m
/-- How far a place lies behind the one behind k. -/
def dst (m k p : Nat) : Nat := (p + m - k - 1) % m
theorem dst_at (m k d : Nat) (hk : k < m) (hd : d < m) : dst m k ((k + 1 + d) % m) = d := by
  unfold dst
  by_cases h : k + 1 + d < m
  · rw [Nat.mod_eq_of_lt h, show k + 1 + d + m - k - 1 = d + m by omega, Nat.add_mod_right, Nat.mod_eq_of_lt hd]
  · have e : (k + 1 + d) % m = k + 1 + d - m := by rw [Nat.mod_eq_sub_mod (by omega), Nat.mod_eq_of_lt (by omega)]
    rw [e, show k + 1 + d - m + m - k - 1 = d by omega, Nat.mod_eq_of_lt hd]
theorem nx_at (a : List Int) (m k d : Nat) (hd : d < m) (he : a.getD ((k + 1 + d) % m) 0 = a.getD k 0) (h : ∀ j, j < d → (rot a m k).getD j 0 ≠ a.getD k 0) : nx a m k = (k + 1 + d) % m := by
  unfold nx
  rw [fi_eq (rot a m k) (a.getD k 0) d (by rw [rot_len]; exact hd) (by rw [rot_get _ _ _ _ hd]; exact he) h]
theorem nx_more (a : List Int) (m k d : Nat) (hk : k < m) (hd : d < m) (hn : a.getD ((k + 1 + d) % m) 0 ≠ a.getD k 0) (h : ∀ j, j < d → (rot a m k).getD j 0 ≠ a.getD k 0) : d + 1 < m ∧ ∀ j, j < d + 1 → (rot a m k).getD j 0 ≠ a.getD k 0 := by
  refine ⟨?_, fun j hj => ?_⟩
  · refine Decidable.byContradiction fun hc => ?_
    have e : k + 1 + d = k + m := by omega
    rw [e, Nat.add_mod_right, Nat.mod_eq_of_lt hk] at hn
    exact hn rfl
  · by_cases e : j = d
    · subst e; rw [rot_get _ _ _ _ hd]; exact hn
    · exact h j (by omega)
theorem nx_lt (a : List Int) (m k : Nat) (hm : 0 < m) : nx a m k < m := Nat.mod_lt _ hm
theorem tm_next (p m : Nat) : ((p : Int) + 1).tmod (m : Int) = ((p + 1) % m : Nat) := by
  rw [show (p : Int) + 1 = ((p + 1 : Nat) : Int) by omega]; rfl
end Go.Proofs.Ythjgcakpimbcbaa
