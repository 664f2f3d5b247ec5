/- Two systems: their arches, their error code; ComponentsOfPair and its law. -/
import Derived.Test.YtbpecjfiilkobaaCtc
import Derived.Test.YtbpecjfiilkobaaCts
namespace Go.Proofs.Ytbpecjfiilkobaa
open Go.RowKit
set_option linter.unusedVariables false
set_option linter.unusedSimpArgs false
/-- The error of two systems. -/
def pcode (s t : ByteArray) : Int := if (sarc s.data.toList).isSome = true ∧ (sarc t.data.toList).isSome = true then (if s.size = t.size then 0 else 2) else 1
theorem ariV (s : ByteArray) (w : World) (hm : s.size ≤ 1048576) (b : Bool) (hb : (sarc s.data.toList).isSome = b) :
    Calls Try.prog 17 #[.string s] w fun e w' => ∃ v : Value, e = .returned (.tuple #[v, .bool b]) ∧ Below w.heap.size w w' := by
  cases h : sarc s.data.toList with
  | none => rw [h] at hb; subst hb; exact (ari_no s w hm h).mono fun e w' hp => ⟨_, hp.1, hp.2⟩
  | some o => rw [h] at hb; subst hb; exact (ari_yes s w hm o h).mono fun e w' ⟨g, h1, h2, h3, h4⟩ => ⟨_, h2, h4⟩
/-- The three cases of two texts. -/
theorem pair_cases (s t : ByteArray) : (pcode s t = 1 ∧ ¬ ((sarc s.data.toList).isSome = true ∧ (sarc t.data.toList).isSome = true)) ∨
    (∃ oa ob, sarc s.data.toList = some oa ∧ sarc t.data.toList = some ob ∧ s.size ≠ t.size ∧ pcode s t = 2) ∨
    (∃ oa ob L, sarc s.data.toList = some oa ∧ sarc t.data.toList = some ob ∧ s.size = L ∧ t.size = L ∧ pcode s t = 0 ∧ Sys L oa ∧ Sys L ob) := by
  by_cases h : (sarc s.data.toList).isSome = true ∧ (sarc t.data.toList).isSome = true
  · obtain ⟨oa, h1⟩ := Option.isSome_iff_exists.1 h.1
    obtain ⟨ob, h2⟩ := Option.isSome_iff_exists.1 h.2
    have S1 := sarc_sys h1
    have S2 := sarc_sys h2
    rw [size_list] at S1 S2
    by_cases hs : s.size = t.size
    · exact .inr (.inr ⟨oa, ob, t.size, h1, h2, hs, rfl, by unfold pcode; rw [if_pos h, if_pos hs], hs ▸ S1, S2⟩)
    · exact .inr (.inl ⟨oa, ob, h1, h2, hs, by unfold pcode; rw [if_pos h, if_neg hs]⟩)
  · exact .inl ⟨by unfold pcode; rw [if_neg h], h⟩
end Go.Proofs.Ytbpecjfiilkobaa
