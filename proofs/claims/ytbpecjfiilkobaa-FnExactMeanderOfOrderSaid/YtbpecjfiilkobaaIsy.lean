/- Arches of texts, program and model, by cases; IsSystem and its law. -/
import Derived.Test.YtbpecjfiilkobaaAri
import Derived.Test.YtbpecjfiilkobaaSyS
namespace Go.Proofs.Ytbpecjfiilkobaa
open Go.RowKit
set_option linter.unusedVariables false
set_option linter.unusedSimpArgs false
theorem ari_no (s : ByteArray) (w : World) (hm : s.size ≤ 1048576) (h : sarc s.data.toList = none) :
    Calls Try.prog 17 #[.string s] w fun e w' => e = .returned (.tuple #[.slice none 0 0, .bool false]) ∧ Below w.heap.size w w' :=
  (ari_any s w (by unfold maxLen; omega)).mono fun e w' hp => by
    rcases hp with ⟨o, g, h1, _⟩ | ⟨_, h2, h3⟩
    · rw [h] at h1; cases h1
    · exact ⟨h2, h3⟩
theorem ari_yes (s : ByteArray) (w : World) (hm : s.size ≤ 1048576) (o : List Int) (h : sarc s.data.toList = some o) :
    Calls Try.prog 17 #[.string s] w fun e w' => ∃ g, w.heap.size ≤ g ∧ e = .returned (.tuple #[.slice (some ⟨g, 0, none⟩) s.size s.size, .bool true]) ∧ Own w' g (icells (o.take s.size)) 2 ∧ Below w.heap.size w w' :=
  (ari_any s w (by unfold maxLen; omega)).mono fun e w' hp => by
    rcases hp with ⟨o', g, h1, h2, h3, h4, h5⟩ | ⟨h1, _⟩
    · rw [h] at h1; cases h1; exact ⟨g, h2, h3, h4, h5⟩
    · rw [h] at h1; cases h1
theorem sar_none (s : ByteArray) (w : World) (hm : s.size ≤ 1048576) (h : sarc s.data.toList = none) :
    Calls Try.prog 14 #[.string s] w fun e w' => ∃ o : List Int, o.length = 12 ∧ e = .returned (.tuple #[.agg (icells o), .bool false]) ∧ Below w.heap.size w w' :=
  (sarS_any s w hm).mono fun e w' hp => by
    obtain ⟨o, b, h1, h2, h3, h4, h5⟩ := hp
    cases b with
    | false => exact ⟨o, h1, h2, h5⟩
    | true => have := h3 rfl; rw [h] at this; cases this
theorem sar_some (s : ByteArray) (w : World) (hm : s.size ≤ 1048576) (o : List Int) (h : sarc s.data.toList = some o) :
    Calls Try.prog 14 #[.string s] w fun e w' => e = .returned (.tuple #[.agg (icells o), .bool true]) ∧ Below w.heap.size w w' :=
  (sarS_any s w hm).mono fun e w' hp => by
    obtain ⟨o', b, h1, h2, h3, h4, h5⟩ := hp
    cases b with
    | false => have := h4 rfl; rw [h] at this; cases this
    | true => have h6 := h3 rfl; rw [h] at h6; cases h6; exact ⟨h2, h5⟩
theorem st12 {o : List Int} (h : o.length = 12) : (icells z12).size = (icells o).size := by rw [i12s _ h, i12s _ z12l]
end Go.Proofs.Ytbpecjfiilkobaa
