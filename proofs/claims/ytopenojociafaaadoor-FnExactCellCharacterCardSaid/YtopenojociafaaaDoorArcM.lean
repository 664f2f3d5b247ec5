/- Plain mathematics: the arcs of a half diagram, letter by letter. -/
import Derived.Test.YtopenojociafaaaDoorParse
namespace Go.Proofs.YtopenojociafaaaDoor
open Go.RowKit
def z8 : List Int := List.replicate 8 0
/-- What has been read behind k letters: the mates so far, and the places that are open. -/
def ast (l : List UInt8) : Nat → Option (List Int × List Nat)
  | 0 => some (z8, [])
  | k + 1 => match ast l k with
    | none => none
    | some (o, st) =>
      if l[k]? = some 40 then some (o, st ++ [k])
      else if l[k]? = some 41 then
        match st.getLast? with
        | none => none
        | some y => some ((o.set y (k : Int)).set k (y : Int), st.dropLast)
      else if l[k]? = some 124 then (if st = [] then some (o.set k (k : Int), []) else none)
      else none
/-- The mates of the places of a half diagram. -/
def arcO (l : List UInt8) : Option (List Int) :=
  if 1 ≤ l.length ∧ l.length ≤ 8 then
    match ast l l.length with
    | some (o, []) => some o
    | _ => none
  else none
theorem ast_none (l : List UInt8) (k : Nat) (h : ast l k = none) (d : Nat) : ast l (k + d) = none := by
  induction d with
  | zero => exact h
  | succ d ih =>
    show ast l (k + d + 1) = none
    unfold ast; rw [ih]
theorem ast_none_le (l : List UInt8) (k m : Nat) (h : ast l k = none) (hm : k ≤ m) : ast l m = none := by
  have := ast_none l k h (m - k)
  rwa [show k + (m - k) = m by omega] at this
theorem ast_len (l : List UInt8) (k : Nat) (o : List Int) (st : List Nat) (h : ast l k = some (o, st)) : o.length = 8 ∧ st.length ≤ k ∧ ∀ y ∈ st, y < k := by
  induction k generalizing o st with
  | zero => simp [ast, z8] at h; obtain ⟨rfl, rfl⟩ := h; simp
  | succ k ih =>
    unfold ast at h
    cases hp : ast l k with
    | none => rw [hp] at h; simp at h
    | some q =>
      obtain ⟨o', st'⟩ := q
      obtain ⟨h1, h2, h3⟩ := ih o' st' hp
      rw [hp] at h
      simp only at h
      split at h
      · simp at h; obtain ⟨rfl, rfl⟩ := h
        refine ⟨h1, by simp; omega, fun y hy => ?_⟩
        rw [List.mem_append] at hy
        rcases hy with hy | hy
        · have := h3 y hy; omega
        · simp at hy; omega
      · split at h
        · cases hl : st'.getLast? with
          | none => rw [hl] at h; simp at h
          | some y =>
            rw [hl] at h; simp at h; obtain ⟨rfl, rfl⟩ := h
            refine ⟨by simp [h1], by simp; omega, fun y hy => ?_⟩
            have := h3 y (List.dropLast_subset _ hy); omega
        · split at h
          · split at h
            · simp at h; obtain ⟨rfl, rfl⟩ := h
              exact ⟨by simp [h1], by simp, fun y hy => by simp at hy⟩
            · simp at h
          · simp at h
theorem ast_open (l : List UInt8) (k : Nat) (o : List Int) (st : List Nat) (h : ast l k = some (o, st)) (hc : l[k]? = some 40) : ast l (k + 1) = some (o, st ++ [k]) := by
  rw [ast, h]; simp [hc]
theorem ast_close (l : List UInt8) (k : Nat) (o : List Int) (st : List Nat) (y : Nat) (h : ast l k = some (o, st ++ [y])) (hc : l[k]? = some 41) : ast l (k + 1) = some ((o.set y (k : Int)).set k (y : Int), st) := by
  rw [ast, h]; simp [hc]
theorem ast_empty (l : List UInt8) (k : Nat) (o : List Int) (h : ast l k = some (o, [])) (hc : l[k]? = some 41) : ast l (k + 1) = none := by
  rw [ast, h]; simp [hc]
theorem ast_point (l : List UInt8) (k : Nat) (o : List Int) (h : ast l k = some (o, [])) (hc : l[k]? = some 124) : ast l (k + 1) = some (o.set k (k : Int), []) := by
  rw [ast, h]; simp [hc]
theorem ast_under (l : List UInt8) (k : Nat) (o : List Int) (st : List Nat) (y : Nat) (h : ast l k = some (o, st ++ [y])) (hc : l[k]? = some 124) : ast l (k + 1) = none := by
  rw [ast, h]; simp [hc]
theorem ast_other (l : List UInt8) (k : Nat) (o : List Int) (st : List Nat) (h : ast l k = some (o, st)) (hc : l[k]? ≠ some 40) (hd : l[k]? ≠ some 41) (hp : l[k]? ≠ some 124) : ast l (k + 1) = none := by
  rw [ast, h]; simp [hc, hd, hp]
theorem arc_some (l : List UInt8) (h1 : 1 ≤ l.length) (h8 : l.length ≤ 8) (o : List Int) (h : ast l l.length = some (o, [])) : arcO l = some o := by
  unfold arcO
  rw [if_pos ⟨h1, h8⟩, h]
theorem arc_open (l : List UInt8) (o : List Int) (st : List Nat) (y : Nat) (h : ast l l.length = some (o, st ++ [y])) : arcO l = none := by
  unfold arcO
  split
  · rw [h]; cases st <;> simp
  · rfl
theorem arc_bad (l : List UInt8) (k : Nat) (hk : k ≤ l.length) (h : ast l k = none) : arcO l = none := by
  unfold arcO
  split
  · rw [ast_none_le _ _ _ h hk]
  · rfl
theorem arc_size (l : List UInt8) (h : l.length < 1 ∨ 8 < l.length) : arcO l = none := by
  unfold arcO
  rw [if_neg]
  omega
end Go.Proofs.YtopenojociafaaaDoor
