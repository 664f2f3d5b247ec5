/- The plain function that reads a text as a diagram, and its laws. -/
import Derived.Test.YtdmgmhjclagnpaaBase
namespace Go.Proofs.Ytdmgmhjclagnpaa
open Go.RowKit

/-- The place of a point, and the point with a place. -/
def pl (n i : Int) : Int := if i < n then i else 3 * n - 1 - i
theorem pl_bd (n i : Int) (h8 : n ≤ 8) (h0 : 0 ≤ i) (h2 : i < 2 * n) : 0 ≤ pl n i ∧ pl n i < 2 * n ∧ pl n i < 16 := by
  unfold pl; split <;> omega
/-- What has been read behind k bytes: the mates so far, and the places that are open. -/
def pst (n : Int) (l : List UInt8) : Nat → Option (List Int × List Int)
  | 0 => some (zeros, [])
  | k + 1 => match pst n l k with
    | none => none
    | some (ms, o) =>
      if l[k]? = some 40 then some (ms, o ++ [(k : Int)])
      else if l[k]? = some 41 then
        match o.getLast? with
        | none => none
        | some y => some (joinL ms (pl n y) (pl n k), o.dropLast)
      else none
/-- The size and the mates of the diagram with a text. -/
def parse (l : List UInt8) : Option (Int × List Int) :=
  if (l.length : Int) % 2 = 0 ∧ 1 ≤ (l.length : Int) / 2 ∧ (l.length : Int) / 2 ≤ 8 then
    match pst ((l.length : Int) / 2) l l.length with
    | some (ms, []) => some ((l.length : Int) / 2, ms)
    | _ => none
  else none
def pcells : Option (Int × List Int) → Array Value
  | none => zcells
  | some (n, ms) => dcells n ms

theorem pst_none (n : Int) (l : List UInt8) (k : Nat) (h : pst n l k = none) (d : Nat) : pst n l (k + d) = none := by
  induction d with
  | zero => exact h
  | succ d ih =>
    show pst n l (k + d + 1) = none
    unfold pst; rw [ih]
theorem pst_none_le (n : Int) (l : List UInt8) (k m : Nat) (h : pst n l k = none) (hm : k ≤ m) : pst n l m = none := by
  have := pst_none n l k h (m - k)
  rwa [show k + (m - k) = m by omega] at this
theorem pst_len (n : Int) (l : List UInt8) (k : Nat) (ms o : List Int) (h : pst n l k = some (ms, o)) : ms.length = 16 ∧ o.length ≤ k ∧ ∀ y ∈ o, 0 ≤ y ∧ y < k := by
  induction k generalizing ms o with
  | zero => simp [pst, zeros] at h; obtain ⟨rfl, rfl⟩ := h; simp
  | succ k ih =>
    unfold pst at h
    cases hp : pst n l k with
    | none => rw [hp] at h; simp at h
    | some q =>
      obtain ⟨ms', o'⟩ := q
      obtain ⟨h1, h2, h3⟩ := ih ms' o' hp
      rw [hp] at h
      simp only at h
      split at h
      · simp at h; obtain ⟨rfl, rfl⟩ := h
        refine ⟨h1, by simp; omega, fun y hy => ?_⟩
        rw [List.mem_append] at hy
        rcases hy with hy | hy
        · have := h3 y hy; omega
        · simp at hy; omega
      · split at h
        · cases hl : o'.getLast? with
          | none => rw [hl] at h; simp at h
          | some y =>
            rw [hl] at h; simp at h; obtain ⟨rfl, rfl⟩ := h
            refine ⟨by rw [joinL_len]; exact h1, by simp; omega, fun y hy => ?_⟩
            have := h3 y (List.dropLast_subset _ hy); omega
        · simp at h
theorem pst_open (n : Int) (l : List UInt8) (k : Nat) (ms o : List Int) (h : pst n l k = some (ms, o)) (hc : l[k]? = some 40) : pst n l (k + 1) = some (ms, o ++ [(k : Int)]) := by
  rw [pst, h]; simp [hc]
theorem pst_close (n : Int) (l : List UInt8) (k : Nat) (ms o : List Int) (y : Int) (h : pst n l k = some (ms, o ++ [y])) (hc : l[k]? = some 41) : pst n l (k + 1) = some (joinL ms (pl n y) (pl n k), o) := by
  rw [pst, h]; simp [hc]
theorem pst_empty (n : Int) (l : List UInt8) (k : Nat) (ms : List Int) (h : pst n l k = some (ms, [])) (hc : l[k]? ≠ some 40) : pst n l (k + 1) = none := by
  rw [pst, h]; simp [hc]
theorem pst_other (n : Int) (l : List UInt8) (k : Nat) (ms o : List Int) (h : pst n l k = some (ms, o)) (hc : l[k]? ≠ some 40) (hd : l[k]? ≠ some 41) : pst n l (k + 1) = none := by
  rw [pst, h]; simp [hc, hd]
theorem parse_len (l : List UInt8) (n : Int) (ms : List Int) (h : parse l = some (n, ms)) : ms.length = 16 := by
  unfold parse at h
  split at h
  · split at h
    · rename_i hp; simp at h; obtain ⟨_, rfl⟩ := h; exact (pst_len _ _ _ _ _ hp).1
    · simp at h
  · simp at h
theorem pcells_size (l : List UInt8) : (pcells (parse l)).size = 17 := by
  cases h : parse l with
  | none => rfl
  | some q => obtain ⟨n, ms⟩ := q; exact d17 n ms (parse_len l n ms h)
theorem parse_some (l : List UInt8) (n : Int) (hl : (l.length : Int) = 2 * n) (h1 : 1 ≤ n) (h8 : n ≤ 8) (ms : List Int) (h : pst n l l.length = some (ms, [])) : parse l = some (n, ms) := by
  have e : (l.length : Int) / 2 = n := by omega
  unfold parse
  rw [e, if_pos ⟨by omega, h1, h8⟩, h]
theorem parse_open (l : List UInt8) (n : Int) (hl : (l.length : Int) = 2 * n) (ms o : List Int) (y : Int) (h : pst n l l.length = some (ms, o ++ [y])) : parse l = none := by
  have e : (l.length : Int) / 2 = n := by omega
  unfold parse
  rw [e]
  split
  · rw [h]
    cases o <;> simp
  · rfl
theorem parse_bad (l : List UInt8) (n : Int) (hl : (l.length : Int) = 2 * n) (k : Nat) (hk : k ≤ l.length) (h : pst n l k = none) : parse l = none := by
  have e : (l.length : Int) / 2 = n := by omega
  unfold parse
  rw [e]
  split
  · rw [pst_none_le _ _ _ _ h hk]
  · rfl
theorem parse_size (l : List UInt8) (h : (l.length : Int) % 2 ≠ 0 ∨ (l.length : Int) / 2 < 1 ∨ 8 < (l.length : Int) / 2) : parse l = none := by
  unfold parse
  rw [if_neg]
  omega
theorem byte_ne (c d : UInt8) (h : c ≠ d) : ((c.toNat : Int) == (d.toNat : Int)) = false := by
  simp only [beq_eq_false_iff_ne, ne_eq]
  intro e
  exact h (UInt8.toNat.inj (by omega))
theorem size_list (s : ByteArray) : s.data.toList.length = s.size := by
  rw [Array.length_toList]; rfl
theorem get_list (s : ByteArray) (k : Nat) (h : k < s.size) : s.data.toList[k]? = some s[k] := by
  rw [List.getElem?_eq_getElem (by rw [size_list]; exact h)]; rfl
/-- What the reading hands back. -/
def pval : Option (Int × List Int) → Value
  | none => .tuple #[.agg zcells, .bool false]
  | some (n, ms) => .tuple #[.agg (dcells n ms), .bool true]
def DotPost (s : ByteArray) (w : World) (e : Ending) (w' : World) : Prop := e = .returned (pval (parse s.data.toList)) ∧ Below w.heap.size w w'
theorem dot_fail {s : ByteArray} {w w' : World} (h : parse s.data.toList = none) (hb : Below w.heap.size w w') : DotPost s w (.returned (.tuple #[.agg zcells, .bool false])) w' := ⟨by rw [h]; rfl, hb⟩
theorem dot_yes {s : ByteArray} {w w' : World} {n : Int} {ms : List Int} (h : parse s.data.toList = some (n, ms)) (hb : Below w.heap.size w w') : DotPost s w (.returned (.tuple #[.agg (dcells n ms), .bool true])) w' := ⟨by rw [h]; rfl, hb⟩
end Go.Proofs.Ytdmgmhjclagnpaa
