/- Plain mathematics: the diagram with two halves, as the model joins it. -/
import Derived.Test.YtopenojociafaaaDoorTexts
namespace Go.Proofs.YtopenojociafaaaDoor
open Go.RowKit
/-- Behind k places: the mates, the open points above, the open points below. -/
def dm1 (n : Nat) (o1 o2 : List Int) : Nat → List Int × List Nat × List Nat
  | 0 => (zeros, [], [])
  | k + 1 =>
    (((dm1 n o1 o2 k).1.set k (o1.getD k 0)).set (n + k) ((n : Int) + o2.getD k 0),
     if o1.getD k 0 = (k : Int) then (dm1 n o1 o2 k).2.1 ++ [k] else (dm1 n o1 o2 k).2.1,
     if o2.getD k 0 = (k : Int) then (dm1 n o1 o2 k).2.2 ++ [n + k] else (dm1 n o1 o2 k).2.2)
/-- Behind k open points. -/
def dm2 (f s : List Nat) (ms : List Int) : Nat → List Int
  | 0 => ms
  | k + 1 => ((dm2 f s ms k).set (f.getD k 0) ((s.getD k 0 : Nat) : Int)).set (s.getD k 0) ((f.getD k 0 : Nat) : Int)
def dmS (n : Nat) (o1 o2 : List Int) : List Int := dm2 (dm1 n o1 o2 n).2.1 (dm1 n o1 o2 n).2.2 (dm1 n o1 o2 n).1 (dm1 n o1 o2 n).2.1.length
theorem dm1_len (n : Nat) (o1 o2 : List Int) (k : Nat) : (dm1 n o1 o2 k).1.length = 16 := by
  induction k with
  | zero => rfl
  | succ k ih => simp [dm1, ih]
theorem dm1_bd (n : Nat) (o1 o2 : List Int) (k : Nat) : ((dm1 n o1 o2 k).2.1.length ≤ k ∧ ∀ y ∈ (dm1 n o1 o2 k).2.1, y < k) ∧ ((dm1 n o1 o2 k).2.2.length ≤ k ∧ ∀ y ∈ (dm1 n o1 o2 k).2.2, y < n + k) := by
  induction k with
  | zero => simp [dm1]
  | succ k ih =>
    obtain ⟨⟨a1, a2⟩, a3, a4⟩ := ih
    refine ⟨?_, ?_⟩
    · simp only [dm1]
      split
      · refine ⟨by simp; omega, fun y hy => ?_⟩
        rw [List.mem_append] at hy
        rcases hy with hy | hy
        · have := a2 y hy; omega
        · simp at hy; omega
      · exact ⟨by omega, fun y hy => by have := a2 y hy; omega⟩
    · simp only [dm1]
      split
      · refine ⟨by simp; omega, fun y hy => ?_⟩
        rw [List.mem_append] at hy
        rcases hy with hy | hy
        · have := a4 y hy; omega
        · simp at hy; omega
      · exact ⟨by omega, fun y hy => by have := a4 y hy; omega⟩
theorem dm2_len (f s : List Nat) (ms : List Int) (h : ms.length = 16) (k : Nat) : (dm2 f s ms k).length = 16 := by
  induction k with
  | zero => exact h
  | succ k ih => simp [dm2, ih]
theorem dmS_len (n : Nat) (o1 o2 : List Int) : (dmS n o1 o2).length = 16 := dm2_len _ _ _ (dm1_len _ _ _ _) _
theorem getD_bd {l : List Nat} {b : Nat} (h : ∀ y ∈ l, y < b) (k : Nat) (hk : k < l.length) : l.getD k 0 < b := by
  rw [List.getD_eq_getElem?_getD, List.getElem?_eq_getElem hk]; exact h _ (List.getElem_mem hk)
def O8 (o : List Int) : Prop := o.length = 8 ∧ ∀ i : Nat, 0 ≤ o.getD i 0 ∧ o.getD i 0 < 8
theorem O8.set {o : List Int} (h : O8 o) (k : Nat) (x : Int) (hx : 0 ≤ x ∧ x < 8) : O8 (o.set k x) := by
  refine ⟨by simp [h.1], fun i => ?_⟩
  rw [List.getD_eq_getElem?_getD, List.getElem?_set]
  split
  · split
    · simpa using hx
    · simp
  · rw [← List.getD_eq_getElem?_getD]; exact h.2 i
theorem ast_O8 (l : List UInt8) (h8 : l.length ≤ 8) (k : Nat) (hk : k ≤ l.length) (o : List Int) (st : List Nat) (h : ast l k = some (o, st)) : O8 o := by
  induction k generalizing o st with
  | zero =>
    simp [ast] at h; obtain ⟨rfl, rfl⟩ := h
    refine ⟨rfl, fun i => ?_⟩
    unfold z8
    rw [List.getD_eq_getElem?_getD, List.getElem?_replicate]
    split <;> simp
  | succ k ih =>
    unfold ast at h
    cases hp : ast l k with
    | none => rw [hp] at h; simp at h
    | some q =>
      obtain ⟨o', st'⟩ := q
      have hi := ih (by omega) o' st' hp
      have hb := (ast_len _ _ _ _ hp).2.2
      rw [hp] at h
      simp only at h
      split at h
      · simp at h; obtain ⟨rfl, rfl⟩ := h; exact hi
      · split at h
        · cases hl : st'.getLast? with
          | none => rw [hl] at h; simp at h
          | some y =>
            rw [hl] at h; simp at h; obtain ⟨rfl, rfl⟩ := h
            have := hb y (List.mem_of_getLast? hl)
            exact (hi.set _ _ (by omega)).set _ _ (by omega)
        · split at h
          · split at h
            · simp at h; obtain ⟨rfl, rfl⟩ := h
              exact hi.set _ _ (by omega)
            · simp at h
          · simp at h
theorem arc_O8 {l : List UInt8} {o : List Int} (h : arcO l = some o) : O8 o ∧ 1 ≤ l.length ∧ l.length ≤ 8 := by
  unfold arcO at h
  split at h
  · rename_i hc
    split at h
    · rename_i hp; simp at h; subst h
      exact ⟨ast_O8 l hc.2 _ (Nat.le_refl _) _ _ hp, hc⟩
    · simp at h
  · simp at h
end Go.Proofs.YtopenojociafaaaDoor
