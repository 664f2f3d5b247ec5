/- Plain mathematics: the text of the diagram with two halves. -/
import Derived.Lib.Replace
import Derived.Lib.SplitLaws
import Derived.Test.YtopenojociafaaaDoorParse
namespace Go.Proofs.YtopenojociafaaaDoor
open Go.RowKit Go.Lib
def rep1 (l : List UInt8) : List UInt8 := l.map fun c => if c = 124 then 40 else c
def tr (c : UInt8) : UInt8 := if c = 41 then 40 else if c = 40 ∨ c = 124 then 41 else c
def turn1 (l : List UInt8) : List UInt8 := l.reverse.map tr
def tohL (a b : List UInt8) : List UInt8 := rep1 a ++ turn1 b
theorem rep_k : ∀ l : List UInt8, replaceK [124] [40] (l.count 124) l = rep1 l
  | [] => rfl
  | b :: l => by
    have ih := rep_k l
    by_cases c : b = 124
    · subst c
      have h0 : index (124 :: l) [124] = (0 : Nat) := by rw [index_one]; rfl
      have e : (124 :: l).count 124 = l.count 124 + 1 := by simp
      rw [e, replaceK_hit _ _ _ _ 0 h0]
      simp only [List.take_zero, List.nil_append, List.length_cons, List.length_nil, Nat.zero_add, List.drop_succ_cons, List.drop_zero]
      rw [ih]; rfl
    · have e : (b :: l).count 124 = l.count 124 := by rw [List.count_cons]; simp [c]
      rw [e]
      cases hc : l.count 124 with
      | zero =>
        rw [hc] at ih
        have : rep1 l = l := by rw [← ih]; rfl
        show b :: l = (if b = 124 then 40 else b) :: rep1 l
        rw [if_neg c, this]
      | succ k =>
        obtain ⟨i, hi⟩ := index_of_count (s := l) (old := [124]) (by rw [count_one, hc]; omega)
        rw [hc, replaceK_hit _ _ _ _ i hi] at ih
        have hbi : index (b :: l) [124] = ((i + 1 : Nat) : Int) := by
          rw [index_one] at hi ⊢
          unfold indexByte
          rw [if_neg (by simpa using c), hi, if_neg (by simp <;> omega)]; simp
        rw [replaceK_hit _ _ _ _ (i + 1) hbi]
        show _ = (if b = 124 then 40 else b) :: rep1 l
        rw [if_neg c, ← ih]
        simp
theorem rep_all (l : List UInt8) : replaceAll l [124] [40] = rep1 l := by
  unfold replaceAll replace replaceNum
  rw [if_neg (by decide), if_pos (.inl (by decide)), count_one, rep_k]
theorem turn_step (l : List UInt8) (j : Nat) (h : j < l.length) : turn1 (l.drop j) = turn1 (l.drop (j + 1)) ++ [tr l[j]] := by
  unfold turn1
  rw [List.drop_eq_getElem_cons h, List.reverse_cons, List.map_append]
  rfl
theorem rep_len (l : List UInt8) : (rep1 l).length = l.length := by simp [rep1]
theorem turn_len (l : List UInt8) : (turn1 l).length = l.length := by simp [turn1]
end Go.Proofs.YtopenojociafaaaDoor
