/- Two systems: their arches, their error code; ComponentsOfPair and its law. -/
import Derived.Test.YtbikpagoeeelbaaCtc
import Derived.Test.YtbikpagoeeelbaaCts
namespace Go.Proofs.Ytbikpagoeeelbaa
open Go.RowKit
set_option linter.unusedVariables false
set_option linter.unusedSimpArgs false
/-- The error of two systems. -/
def pcode (s t : ByteArray) : Int := if (sarc s.data.toList).isSome = true ∧ (sarc t.data.toList).isSome = true then (if s.size = t.size then 0 else 2) else 1
theorem ariV (s : ByteArray) (w : World) (hm : s.size ≤ 1048576) (b : Bool) (hb : (sarc s.data.toList).isSome = b) :
    Calls Try.prog 36 #[.string s] w fun e w' => ∃ v : Value, e = .returned (.tuple #[v, .bool b]) ∧ Below w.heap.size w w' := by
  cases h : sarc s.data.toList with
  | none => rw [h] at hb; subst hb; exact (ari_no s w hm h).mono fun e w' hp => ⟨_, hp.1, hp.2⟩
  | some o => rw [h] at hb; subst hb; exact (ari_yes s w hm o h).mono fun e w' ⟨g, h1, h2, h3, h4⟩ => ⟨_, h2, h4⟩
theorem apa_one (s t : ByteArray) (w : World) (hm : s.size ≤ 1048576) (ht : t.size ≤ 1048576) (h : ¬ ((sarc s.data.toList).isSome = true ∧ (sarc t.data.toList).isSome = true)) :
    Calls Try.prog 39 #[.string s, .string t] w fun e w' => e = .returned (.tuple #[.slice none 0 0, .slice none 0 0, .int .i64 1]) ∧ Below w.heap.size w w' := by
  obtain ⟨b1, h1⟩ : ∃ b, (sarc s.data.toList).isSome = b := ⟨_, rfl⟩
  obtain ⟨b2, h2⟩ : ∃ b, (sarc t.data.toList).isSome = b := ⟨_, rfl⟩
  have c1 := Lib.hid (fun w => ariV s w hm b1 h1)
  have c2 := Lib.hid (fun w => ariV t w ht b2 h2)
  rw [h1, h2] at h
  clear h1 h2
  cases b1 <;> cases b2
  · clear h
    go_enter Try.func39, Try.ntmps39
    go_wp2_with (first
      | (go_at_call 36; ((with_reducible refine (c1.out w).mono ?_); rintro e w1 ⟨v1, rfl, hB1⟩))
      | (go_at_call 36; ((with_reducible refine (c2.out _).mono ?_); rintro e w2 ⟨v2, rfl, hB2⟩)))
    go_ret3
    exact ⟨rfl, hB1.trans (hB2.mono hB1.size)⟩
  · clear h
    go_enter Try.func39, Try.ntmps39
    go_wp2_with (first
      | (go_at_call 36; ((with_reducible refine (c1.out w).mono ?_); rintro e w1 ⟨v1, rfl, hB1⟩))
      | (go_at_call 36; ((with_reducible refine (c2.out _).mono ?_); rintro e w2 ⟨v2, rfl, hB2⟩)))
    go_ret3
    exact ⟨rfl, hB1.trans (hB2.mono hB1.size)⟩
  · clear h
    go_enter Try.func39, Try.ntmps39
    go_wp2_with (first
      | (go_at_call 36; ((with_reducible refine (c1.out w).mono ?_); rintro e w1 ⟨v1, rfl, hB1⟩))
      | (go_at_call 36; ((with_reducible refine (c2.out _).mono ?_); rintro e w2 ⟨v2, rfl, hB2⟩)))
    go_ret3
    exact ⟨rfl, hB1.trans (hB2.mono hB1.size)⟩
  · exact absurd ⟨rfl, rfl⟩ h
theorem apa_two (s t : ByteArray) (w : World) (hm : s.size ≤ 1048576) (ht : t.size ≤ 1048576) (oa ob : List Int) (h1 : sarc s.data.toList = some oa) (h2 : sarc t.data.toList = some ob) (hne : s.size ≠ t.size) :
    Calls Try.prog 39 #[.string s, .string t] w fun e w' => e = .returned (.tuple #[.slice none 0 0, .slice none 0 0, .int .i64 2]) ∧ Below w.heap.size w w' := by
  have c1 := Lib.hid (fun w => ari_yes s w hm oa h1)
  have c2 := Lib.hid (fun w => ari_yes t w ht ob h2)
  have hn : ((s.size : Int) != (t.size : Int)) = true := by simp; omega
  clear h1 h2
  go_enter Try.func39, Try.ntmps39
  go_wp2_with (first
    | (go_at_call 36; ((with_reducible refine (c1.out w).mono ?_); rintro e w1 ⟨g1, hg1, rfl, hO1, hB1⟩))
    | (go_at_call 36; ((with_reducible refine (c2.out _).mono ?_); rintro e w2 ⟨g2, hg2, rfl, hO2, hB2⟩)))
  go_ret3
  exact ⟨rfl, hB1.trans (hB2.mono hB1.size)⟩
theorem apa_ok (s t : ByteArray) (w : World) (hm : s.size ≤ 1048576) (oa ob : List Int) (h1 : sarc s.data.toList = some oa) (h2 : sarc t.data.toList = some ob) (L : Nat) (hs : s.size = L) (ht : t.size = L) :
    Calls Try.prog 39 #[.string s, .string t] w fun e w' => ∃ ga gb, e = .returned (.tuple #[.slice (some ⟨ga, 0, none⟩) L L, .slice (some ⟨gb, 0, none⟩) L L, .int .i64 0]) ∧ Arc w' ga L oa ∧ Arc w' gb L ob ∧ Below w.heap.size w w' := by
  have c1 := fun w => ari_yes s w hm oa h1
  have c2 := fun w => ari_yes t w (by omega) ob h2
  rw [hs] at c1
  rw [ht] at c2
  have c1 := Lib.hid c1
  have c2 := Lib.hid c2
  clear h1 h2
  go_enter Try.func39, Try.ntmps39
  go_wp2_with (first
    | (go_at_call 36; ((with_reducible refine (c1.out w).mono ?_); rintro e w1 ⟨g1, hg1, rfl, hO1, hB1⟩))
    | (go_at_call 36; ((with_reducible refine (c2.out _).mono ?_); rintro e w2 ⟨g2, hg2, rfl, hO2, hB2⟩)))
  go_ret3
  exact ⟨g1, g2, rfl, hO1.below hB2 hO1.lt, hO2, hB1.trans (hB2.mono hB1.size)⟩
theorem scd_any (s t : ByteArray) (w : World) (hm : s.size ≤ 1048576) (ht : t.size ≤ 1048576) :
    Calls Try.prog 37 #[.string s, .string t] w fun e w' => e = .returned (.int .i64 (pcode s t)) ∧ Below w.heap.size w w' := by
  have hP : pcode s t = if (sarc s.data.toList).isSome = true ∧ (sarc t.data.toList).isSome = true then (if s.size = t.size then 0 else 2) else 1 := rfl
  obtain ⟨b1, h1⟩ : ∃ b, (sarc s.data.toList).isSome = b := ⟨_, rfl⟩
  obtain ⟨b2, h2⟩ : ∃ b, (sarc t.data.toList).isSome = b := ⟨_, rfl⟩
  have c1 := fun w => sysIs_any s w hm
  have c2 := fun w => sysIs_any t w ht
  rw [h1] at c1 hP
  rw [h2] at c2 hP
  rw [hP]
  have c1 := Lib.hid c1
  have c2 := Lib.hid c2
  clear h1 h2 hP
  by_cases hne : s.size = t.size
  · have hn : ((s.size : Int) != (t.size : Int)) = false := by simp; omega
    rw [if_pos hne]
    clear hne
    cases b1 <;> cases b2 <;>
    · go_enter Try.func37, Try.ntmps37
      go_wp2_with (first
        | (go_at_call 35; ((with_reducible refine (c1.out w).mono ?_); rintro e w1 ⟨rfl, hB1⟩))
        | (go_at_call 35; ((with_reducible refine (c2.out _).mono ?_); rintro e w2 ⟨rfl, hB2⟩)))
      go_ret
      first
        | exact ⟨rfl, hB1.trans (hB2.mono hB1.size)⟩
        | exact ⟨rfl, hB1⟩
  · have hn : ((s.size : Int) != (t.size : Int)) = true := by simp; omega
    rw [if_neg hne]
    clear hne
    cases b1 <;> cases b2 <;>
    · go_enter Try.func37, Try.ntmps37
      go_wp2_with (first
        | (go_at_call 35; ((with_reducible refine (c1.out w).mono ?_); rintro e w1 ⟨rfl, hB1⟩))
        | (go_at_call 35; ((with_reducible refine (c2.out _).mono ?_); rintro e w2 ⟨rfl, hB2⟩)))
      go_ret
      first
        | exact ⟨rfl, hB1.trans (hB2.mono hB1.size)⟩
        | exact ⟨rfl, hB1⟩
/-- The three cases of two texts. -/
theorem pair_cases (s t : ByteArray) : (pcode s t = 1 ∧ ¬ ((sarc s.data.toList).isSome = true ∧ (sarc t.data.toList).isSome = true)) ∨
    (∃ oa ob, sarc s.data.toList = some oa ∧ sarc t.data.toList = some ob ∧ s.size ≠ t.size ∧ pcode s t = 2) ∨
    (∃ oa ob L, sarc s.data.toList = some oa ∧ sarc t.data.toList = some ob ∧ s.size = L ∧ t.size = L ∧ pcode s t = 0 ∧ Sys L oa ∧ Sys L ob) := by
  by_cases h : (sarc s.data.toList).isSome = true ∧ (sarc t.data.toList).isSome = true
  · obtain ⟨oa, h1⟩ := Option.isSome_iff_exists.1 h.1
    obtain ⟨ob, h2⟩ := Option.isSome_iff_exists.1 h.2
    have S1 := sarc_sys h1
    have S2 := sarc_sys h2
    rw [size_list] at S1 S2
    by_cases hs : s.size = t.size
    · exact .inr (.inr ⟨oa, ob, t.size, h1, h2, hs, rfl, by unfold pcode; rw [if_pos h, if_pos hs], hs ▸ S1, S2⟩)
    · exact .inr (.inl ⟨oa, ob, h1, h2, hs, by unfold pcode; rw [if_pos h, if_neg hs]⟩)
  · exact .inl ⟨by unfold pcode; rw [if_neg h], h⟩
theorem apa_bad (s t : ByteArray) (hm : s.size ≤ 1048576) (ht : t.size ≤ 1048576) (c : Int) (hc : pcode s t = c) (h0 : c ≠ 0) (w : World) :
    Calls Try.prog 39 #[.string s, .string t] w fun e w' => e = .returned (.tuple #[.slice none 0 0, .slice none 0 0, .int .i64 c]) ∧ Below w.heap.size w w' := by
  rcases pair_cases s t with ⟨h1, h2⟩ | ⟨oa, ob, h1, h2, h3, h4⟩ | ⟨oa, ob, L, h1, h2, h3, h4, h5, _⟩
  · rw [← hc, h1]; exact apa_one s t w hm ht h2
  · rw [← hc, h4]; exact apa_two s t w hm ht oa ob h1 h2 h3
  · exact absurd (hc.symm.trans h5) h0
theorem cop_both (s t : ByteArray) (hm : s.size ≤ 1048576) (ht : t.size ≤ 1048576) : ∃ x c : Int,
    (∀ w, Calls Try.prog 14 #[.string s, .string t] w fun e w' => e = .returned (.tuple #[.int .i64 x, .int .i64 c]) ∧ Below w.heap.size w w') ∧
    (∀ w, Calls Try.prog 15 #[.string s, .string t] w fun e w' => e = .returned (.tuple #[.int .i64 x, .int .i64 c]) ∧ Below w.heap.size w w') := by
  have hk := fun w => scd_any s t w hm ht
  by_cases h0 : pcode s t = 0
  · rcases pair_cases s t with ⟨h1, h2⟩ | ⟨oa, ob, h1, h2, h3, h4⟩ | ⟨oa, ob, L, h1, h2, h3, h4, h5, S1, S2⟩
    · omega
    · omega
    · rw [h5] at hk
      have hk := Lib.hid hk
      refine ⟨(comps (mf oa) (mf ob) L : Nat), 0, fun w => ?_, fun w => ?_⟩
      · have hc := Lib.hid (fun w => cts_any s t hm ht oa ob h1 h2 L h3 h4 w)
        clear h1 h2 h0 h5
        go_enter Try.func14, Try.ntmps14
        go_wp2_with (first
          | (go_at_call 37; ((with_reducible refine (hk.out _).mono ?_); rintro e w1 ⟨rfl, hB1⟩))
          | (go_at_call 38; ((with_reducible refine (hc.out _).mono ?_); rintro e w2 ⟨rfl, hB2⟩)))
        go_ret2
        exact ⟨rfl, hB1.trans (hB2.mono hB1.size)⟩
      · have hp := Lib.hid (fun w => apa_ok s t w hm oa ob h1 h2 L h3 h4)
        have hc := Lib.hid (fun ga gb w hA hB => ctc_any L oa ob S1 S2 ga gb w hA hB)
        clear h1 h2 h0 h5
        go_enter Try.func15, Try.ntmps15
        go_wp2_with (first
          | (go_at_call 39; ((with_reducible refine (hp.out _).mono ?_); rintro e w1 ⟨ga, gb, rfl, hA, hB, hB1⟩))
          | (go_at_call 40; ((with_reducible refine (hc.out ga gb _ hA hB).mono ?_); rintro e w2 ⟨rfl, hB2⟩)))
        go_ret2
        exact ⟨rfl, hB1.trans (hB2.mono hB1.size)⟩
  · have hb := Lib.hid (fun w => apa_bad s t hm ht _ rfl h0 w)
    obtain ⟨c, hc⟩ : ∃ c, pcode s t = c := ⟨_, rfl⟩
    rw [hc] at h0 hk hb
    have hk := Lib.hid hk
    have hc0 : (c != 0) = true := by simpa using h0
    clear hc h0
    refine ⟨0, c, fun w => ?_, fun w => ?_⟩
    · go_enter Try.func14, Try.ntmps14
      go_wp2_with (first
        | (go_at_call 37; ((with_reducible refine (hk.out _).mono ?_); rintro e w1 ⟨rfl, hB1⟩)))
      go_ret2
      exact ⟨rfl, hB1⟩
    · go_enter Try.func15, Try.ntmps15
      go_wp2_with (first
        | (go_at_call 39; ((with_reducible refine (hb.out _).mono ?_); rintro e w1 ⟨rfl, hB1⟩)))
      go_ret2
      exact ⟨rfl, hB1⟩
theorem cop_law (s t : ByteArray) (w : World) (hl : s.size ≤ maxLen) (hl2 : t.size ≤ maxLen) :
    Calls Try.prog 4 #[.string s, .string t] w fun e w' => e = .returned (.bool true) ∧ Below w.heap.size w w' := by
  unfold maxLen at hl hl2
  by_cases hm : s.size ≤ 1048576
  · have c1 : ¬ (1048576 : Int) < (s.size : Int) := by omega
    by_cases ht : t.size ≤ 1048576
    · have c2 : ¬ (1048576 : Int) < (t.size : Int) := by omega
      obtain ⟨x, c, hS, hI⟩ := cop_both s t hm ht
      have hS := Lib.hid hS
      have hI := Lib.hid hI
      clear hm ht
      go_enter Try.func4, Try.ntmps4
      go_wp2_with (first
        | (go_at_call 14; ((with_reducible refine (hS.out _).mono ?_); rintro e w1 ⟨rfl, hB1⟩))
        | (go_at_call 15; ((with_reducible refine (hI.out _).mono ?_); rintro e w2 ⟨rfl, hB2⟩)))
      go_ret
      exact ⟨rfl, hB1.trans (hB2.mono hB1.size)⟩
    · have c2 : (1048576 : Int) < (t.size : Int) := by omega
      clear hm ht
      go_enter Try.func4, Try.ntmps4
      go_wp2
      go_ret
      exact ⟨rfl, Below.refl _ _⟩
  · have c1 : (1048576 : Int) < (s.size : Int) := by omega
    clear hm
    go_enter Try.func4, Try.ntmps4
    go_wp2
    go_ret
    exact ⟨rfl, Below.refl _ _⟩
end Go.Proofs.Ytbikpagoeeelbaa
