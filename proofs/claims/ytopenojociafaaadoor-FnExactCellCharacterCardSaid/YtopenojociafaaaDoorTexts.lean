/- Plain mathematics: all texts of brackets and open points of a length; which texts are half diagrams, for the program and for the model. -/
import Derived.Test.YtopenojociafaaaDoorTohM
import Derived.Test.YtopenojociafaaaDoorArcM
import Derived.Test.YtopenojociafaaaDoorHalfM
import Derived.Test.YtopenojociafaaaDoorByf
namespace Go.Proofs.YtopenojociafaaaDoor
open Go.RowKit
def texts : Nat → List (List UInt8)
  | 0 => [[]]
  | n + 1 => (texts n).flatMap fun t => [40 :: t, 41 :: t, 124 :: t]
def Letter (c : UInt8) : Prop := c = 40 ∨ c = 41 ∨ c = 124
theorem mem_texts : ∀ l : List UInt8, (∀ c ∈ l, Letter c) → l ∈ texts l.length
  | [], _ => by simp [texts]
  | b :: l, h => by
    have ih := mem_texts l (fun c hc => h c (by simp [hc]))
    have hb := h b (by simp)
    simp only [List.length_cons, texts, List.mem_flatMap]
    refine ⟨l, ih, ?_⟩
    rcases hb with e | e | e <;> simp [e]
/-- Whether a text is a half diagram, as the program asks it. -/
def ihB (l : List UInt8) : Bool := match parse (tohL l l) with
  | none => false
  | some (n, ms) => decide (hfL n 0 ms n.toNat = LI l)
def okE (l : List UInt8) : Bool := ihB l == (arcO l).isSome
theorem toh_len (a b : List UInt8) : (tohL a b).length = a.length + b.length := by simp [tohL, rep_len, turn_len]
theorem ihB_none {l : List UInt8} (h : parse (tohL l l) = none) : ihB l = false := by unfold ihB; rw [h]
theorem okE_size (l : List UInt8) (h : l.length < 1 ∨ 8 < l.length) : ihB l = (arcO l).isSome := by
  rw [arc_size l h, ihB_none (parse_size _ (by rw [toh_len]; right; omega))]; rfl
theorem other_at (l : List UInt8) (h : ¬ ∀ c ∈ l, Letter c) : ∃ (k : Nat) (c : UInt8), l[k]? = some c ∧ ¬ Letter c := by
  simp only [Classical.not_forall] at h
  obtain ⟨c, hc, hl⟩ := h
  obtain ⟨k, hk⟩ := List.getElem?_of_mem hc
  exact ⟨k, c, hk, hl⟩
theorem lt_of_get {l : List UInt8} {k : Nat} {c : UInt8} (h : l[k]? = some c) : k < l.length := (List.getElem?_eq_some_iff.1 h).1
theorem arc_other {l : List UInt8} {k : Nat} {c : UInt8} (h : l[k]? = some c) (hc : ¬ Letter c) : arcO l = none := by
  have hk := lt_of_get h
  refine arc_bad l (k + 1) hk ?_
  cases hp : ast l k with
  | none => exact ast_none l k hp 1
  | some q =>
    obtain ⟨o, st⟩ := q
    have n1 : c ≠ 40 := fun e => hc (.inl e)
    have n2 : c ≠ 41 := fun e => hc (.inr (.inl e))
    have n3 : c ≠ 124 := fun e => hc (.inr (.inr e))
    exact ast_other l k o st hp (by rw [h]; simpa using n1) (by rw [h]; simpa using n2) (by rw [h]; simpa using n3)
theorem parse_other {l b : List UInt8} {k : Nat} {c : UInt8} (hl : b.length = l.length) (h : l[k]? = some c) (hc : ¬ Letter c) : parse (tohL l b) = none := by
  have hk := lt_of_get h
  have n1 : c ≠ 40 := fun e => hc (.inl e)
  have n2 : c ≠ 41 := fun e => hc (.inr (.inl e))
  have n3 : c ≠ 124 := fun e => hc (.inr (.inr e))
  have hg : (tohL l b)[k]? = some c := by
    unfold tohL
    rw [List.getElem?_append_left (by rw [rep_len]; exact hk)]
    unfold rep1
    rw [List.getElem?_map, h]
    simp [n3]
  refine parse_bad _ (l.length : Int) (by rw [toh_len]; omega) (k + 1) (by rw [toh_len]; omega) ?_
  cases hp : pst (l.length : Int) (tohL l b) k with
  | none => exact pst_none _ _ k hp 1
  | some q =>
    obtain ⟨ms, o⟩ := q
    exact pst_other _ _ k ms o hp (by rw [hg]; simpa using n1) (by rw [hg]; simpa using n2)
end Go.Proofs.YtopenojociafaaaDoor
