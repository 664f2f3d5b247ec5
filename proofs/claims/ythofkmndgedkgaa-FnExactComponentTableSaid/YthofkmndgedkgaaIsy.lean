/- Arches of texts, program and model, by cases; IsSystem and its law. -/
import Derived.Test.YthofkmndgedkgaaAri
import Derived.Test.YthofkmndgedkgaaSyS
namespace Go.Proofs.Ythofkmndgedkgaa
open Go.RowKit
set_option linter.unusedVariables false
set_option linter.unusedSimpArgs false
theorem ari_no (s : ByteArray) (w : World) (hm : s.size ≤ 1048576) (h : sarc s.data.toList = none) :
    Calls Try.prog 90 #[.string s] w fun e w' => e = .returned (.tuple #[.slice none 0 0, .bool false]) ∧ Below w.heap.size w w' :=
  (ari_any s w (by unfold maxLen; omega)).mono fun e w' hp => by
    rcases hp with ⟨o, g, h1, _⟩ | ⟨_, h2, h3⟩
    · rw [h] at h1; cases h1
    · exact ⟨h2, h3⟩
theorem ari_yes (s : ByteArray) (w : World) (hm : s.size ≤ 1048576) (o : List Int) (h : sarc s.data.toList = some o) :
    Calls Try.prog 90 #[.string s] w fun e w' => ∃ g, w.heap.size ≤ g ∧ e = .returned (.tuple #[.slice (some ⟨g, 0, none⟩) s.size s.size, .bool true]) ∧ Own w' g (icells (o.take s.size)) 2 ∧ Below w.heap.size w w' :=
  (ari_any s w (by unfold maxLen; omega)).mono fun e w' hp => by
    rcases hp with ⟨o', g, h1, h2, h3, h4, h5⟩ | ⟨h1, _⟩
    · rw [h] at h1; cases h1; exact ⟨g, h2, h3, h4, h5⟩
    · rw [h] at h1; cases h1
theorem sar_none (s : ByteArray) (w : World) (hm : s.size ≤ 1048576) (h : sarc s.data.toList = none) :
    Calls Try.prog 95 #[.string s] w fun e w' => ∃ o : List Int, o.length = 12 ∧ e = .returned (.tuple #[.agg (icells o), .bool false]) ∧ Below w.heap.size w w' :=
  (sarS_any s w hm).mono fun e w' hp => by
    obtain ⟨o, b, h1, h2, h3, h4, h5⟩ := hp
    cases b with
    | false => exact ⟨o, h1, h2, h5⟩
    | true => have := h3 rfl; rw [h] at this; cases this
theorem sar_some (s : ByteArray) (w : World) (hm : s.size ≤ 1048576) (o : List Int) (h : sarc s.data.toList = some o) :
    Calls Try.prog 95 #[.string s] w fun e w' => e = .returned (.tuple #[.agg (icells o), .bool true]) ∧ Below w.heap.size w w' :=
  (sarS_any s w hm).mono fun e w' hp => by
    obtain ⟨o', b, h1, h2, h3, h4, h5⟩ := hp
    cases b with
    | false => have := h4 rfl; rw [h] at this; cases this
    | true => have h6 := h3 rfl; rw [h] at h6; cases h6; exact ⟨h2, h5⟩
theorem st12 {o : List Int} (h : o.length = 12) : (icells z12).size = (icells o).size := by rw [i12s _ h, i12s _ z12l]
theorem isSysI_any (s : ByteArray) (w : World) (hm : s.size ≤ 1048576) :
    Calls Try.prog 39 #[.string s] w fun e w' => e = .returned (.bool (sarc s.data.toList).isSome) ∧ Below w.heap.size w w' := by
  cases h : sarc s.data.toList with
  | none =>
    have hc := Lib.hid (fun w => ari_no s w hm h)
    clear h
    go_enter Try.func39, Try.ntmps39
    go_wp2_with (first
      | (go_at_call 90; ((with_reducible refine (hc.out _).mono ?_); rintro e w1 ⟨rfl, hB1⟩)))
    go_ret
    exact ⟨rfl, hB1⟩
  | some o =>
    have hc := Lib.hid (fun w => ari_yes s w hm o h)
    clear h
    go_enter Try.func39, Try.ntmps39
    go_wp2_with (first
      | (go_at_call 90; ((with_reducible refine (hc.out _).mono ?_); rintro e w1 ⟨g, hg, rfl, hO, hB1⟩)))
    go_ret
    exact ⟨rfl, hB1⟩
theorem sysIs_any (s : ByteArray) (w : World) (hm : s.size ≤ 1048576) :
    Calls Try.prog 91 #[.string s] w fun e w' => e = .returned (.bool (sarc s.data.toList).isSome) ∧ Below w.heap.size w w' := by
  cases h : sarc s.data.toList with
  | none =>
    have hc := Lib.hid (fun w => sar_none s w hm h)
    clear h
    go_enter Try.func91, Try.ntmps91
    go_wp2_with (first
      | (go_at_call 95; ((with_reducible refine (hc.out _).mono ?_); rintro e w1 ⟨o, ho, rfl, hB1⟩))
      | (refine wpList_store_own rfl 90 _ _ rfl _ _ rfl rfl 90 _ (Own.new w1 _ _) (row12i (i12s _ (ho))) (st12 ho) (one12i _) ?_; intro w2 hO2 hN2))
    go_ret
    exact ⟨rfl, (hB1.alloc hB1.size _).trans (hN2.below.mono hB1.size)⟩
  | some o =>
    have ho := Lib.hid (sarc_sys h).len
    have hc := Lib.hid (fun w => sar_some s w hm o h)
    clear h
    go_enter Try.func91, Try.ntmps91
    go_wp2_with (first
      | (go_at_call 95; ((with_reducible refine (hc.out _).mono ?_); rintro e w1 ⟨rfl, hB1⟩))
      | (refine wpList_store_own rfl 90 _ _ rfl _ _ rfl rfl 90 _ (Own.new w1 _ _) (row12i (i12s _ (ho.out))) (st12 ho.out) (one12i _) ?_; intro w2 hO2 hN2))
    go_ret
    exact ⟨rfl, (hB1.alloc hB1.size _).trans (hN2.below.mono hB1.size)⟩
theorem isSysS_any (s : ByteArray) (w : World) (hm : s.size ≤ 1048576) :
    Calls Try.prog 40 #[.string s] w fun e w' => e = .returned (.bool (sarc s.data.toList).isSome) ∧ Below w.heap.size w w' := by
  have hc := Lib.hid (fun w => sysIs_any s w hm)
  go_enter Try.func40, Try.ntmps40
  go_wp2_with (first
    | (go_at_call 91; ((with_reducible refine (hc.out _).mono ?_); rintro e w1 ⟨rfl, hB1⟩)))
  go_ret
  exact ⟨rfl, hB1⟩
end Go.Proofs.Ythofkmndgedkgaa
