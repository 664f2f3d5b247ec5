/- OrderOfMeander: the program's, the model's, the law. -/
import Derived.Test.YtbikpagoeeelbaaApa
import Derived.Test.YtbikpagoeeelbaaMark
namespace Go.Proofs.Ytbikpagoeeelbaa
open Go.RowKit
set_option linter.unusedVariables false
set_option linter.unusedSimpArgs false
set_option maxRecDepth 100000 in
set_option maxHeartbeats 4000000 in
theorem oom_walk (s t : ByteArray) (hm : s.size ≤ 1048576) (ht : t.size ≤ 1048576) (w : World) (xs : List Int) (hlx : xs.length ≤ 100000) (cd : Int)
    (hS : ∀ w, Calls Try.prog 16 #[.string s, .string t] w (ResI xs cd w))
    (hI : ∀ w, Calls Try.prog 17 #[.string s, .string t] w (ResI xs cd w)) :
    Calls Try.prog 5 #[.string s, .string t] w fun e w' => e = .returned (.bool true) ∧ Below w.heap.size w w' := by
  obtain ⟨l1, hm1⟩ : ∃ m, xs.length = m := ⟨_, rfl⟩
  have he1 := Lib.hid (fun p q cap cap' w hR hQ => eqI_same p q cap cap' xs (by omega) w hR hQ)
  have hk1 := Lib.hid (fun B p cap w hM hB => mark_all B p cap xs (by omega) 1 (by omega) (by omega) w hM hB)
  have hh1 := Lib.hid (fun p cap w hR => held_any p cap l1 (by omega) 1 (by omega) (by omega) w hR)
  have hrs : ∀ w e w', ResI xs cd w e w' → ∃ (p : Option Addr) (cap : Nat), e = .returned (.tuple #[.slice p l1 cap, .int .i64 cd]) ∧ Mn w' w.heap.size p xs ∧ Below w.heap.size w w' := fun w e w' h => by
    obtain ⟨p, cap, h1, h2⟩ := h
    rw [hm1] at h1
    exact ⟨p, cap, h1, h2⟩
  have hS' := Lib.hid (fun w => (hS w).mono (fun e w' h => hrs w e w' h))
  have hI' := Lib.hid (fun w => (hI w).mono (fun e w' h => hrs w e w' h))
  have ll1 : l1 ≤ 100000 := by omega
  rw [hm1] at he1 hk1
  clear hS hI hm1 hlx hrs
  have k1 : ¬ (1048576 : Int) < (s.size : Int) := by omega
  have k2 : ¬ (1048576 : Int) < (t.size : Int) := by omega
  clear hm ht
  go_enter Try.func5, Try.ntmps5
  go_wp2_with (first
    | (go_at_call 20; ((with_reducible refine (hh1.out _ _ w7 ((hp1b.below hB6 (Nat.le_refl _)).below hB7 (Nat.le_refl _)).rd).mono ?_); rintro e w8 ⟨rfl, rfl⟩))
    | (go_at_call 18; ((with_reducible refine (he1.out _ _ _ _ w6 hr1.rd (hq1b.below hB6 (Nat.le_refl _)).rd).mono ?_); rintro e w7 ⟨rfl, hB7⟩))
    | (go_at_call 17; ((with_reducible refine (hI'.out w5).mono ?_); rintro e w6 ⟨r1, rc1, rfl, hr1, hB6⟩))
    | (go_at_call 20; ((with_reducible refine (hh1.out _ _ w4 hp1b.rd).mono ?_); rintro e w5 ⟨rfl, rfl⟩))
    | (go_at_call 19; ((with_reducible refine (hk1.out w1.heap.size _ _ w3 (hp1.below hB3 (Nat.le_refl _)) (Nat.le_trans hB2.size hB3.size)).mono ?_); rintro e w4 ⟨rfl, hp1b, hB4, hX4⟩; have bq : Below w1.heap.size w1 w4 := ((hB2.trans (hB3.mono hB2.size)).trans hB4); have hq1b := hq1.below bq (Nat.le_refl _)))
    | (go_at_call 18; ((with_reducible refine (he1.out _ _ _ _ w2 hp1.rd (hq1.below hB2 (Nat.le_refl _)).rd).mono ?_); rintro e w3 ⟨rfl, hB3⟩))
    | (go_at_call 17; ((with_reducible refine (hI'.out w1).mono ?_); rintro e w2 ⟨p1, pc1, rfl, hp1, hB2⟩))
    | (go_at_call 16; ((with_reducible refine (hS'.out w).mono ?_); rintro e w1 ⟨q1, qc1, rfl, hq1, hB1⟩)))
  go_ret
  have b1 := hB1.trans (bq.mono hB1.size)
  have b2 := b1.trans (hB6.mono b1.size)
  exact ⟨rfl, b2.trans (hB7.mono b2.size)⟩
theorem ival_val (g cap : Nat) (xs : List Int) (m : Nat) (h : xs.length = m) : ival g cap xs = .slice (some ⟨g, 0, none⟩) m cap := by rw [← h]; rfl
theorem oom_both (s t : ByteArray) (hm : s.size ≤ 1048576) (ht : t.size ≤ 1048576) : ∃ (xs : List Int) (c : Int), xs.length ≤ 100000 ∧
    (∀ w, Calls Try.prog 16 #[.string s, .string t] w (ResI xs c w)) ∧
    (∀ w, Calls Try.prog 17 #[.string s, .string t] w (ResI xs c w)) := by
  have hk := fun w => scd_any s t w hm ht
  by_cases h0 : pcode s t = 0
  · rcases pair_cases s t with ⟨h1, h2⟩ | ⟨oa, ob, h1, h2, h3, h4⟩ | ⟨oa, ob, L, h1, h2, h3, h4, h5, S1, S2⟩
    · omega
    · omega
    · rw [h5] at hk
      have hk := Lib.hid hk
      have hcs := fun w => cts_any s t hm ht oa ob h1 h2 L h3 h4 w
      have hca := Lib.hid (fun w => sar_some s w hm oa h1)
      have hcb := Lib.hid (fun w => sar_some t w ht ob h2)
      have hla := Lib.hid S1.len
      have hlb := Lib.hid S2.len
      have hp := Lib.hid (fun w => apa_ok s t w hm oa ob h1 h2 L h3 h4)
      have h2L := S1.two
      have h12 := S1.top
      have hcl := (curve_lt S1.mf S2.mf h12 (show 0 < L by omega)).2
      have hone := comps_one S1.mf S2.mf h12 h2L
      obtain ⟨cv, hcv⟩ : ∃ cv, curve (mf oa) (mf ob) 0 = cv := ⟨_, rfl⟩
      obtain ⟨m, hml⟩ : ∃ m, cv.length = m := ⟨_, rfl⟩
      have hwk := fun w => swk_any L oa ob S1 S2 0 (by omega) w
      have hcu := fun ga gb w hA hB => cui_any L oa ob S1 S2 ga gb 0 (by omega) w hA hB
      rw [hcv] at hcl hone hwk hcu
      rw [hml] at hcl hone
      have hnl : (nlN cv).length = m := by rw [nlN_len, hml]
      have hwk := Lib.hid (show ∀ w, Calls Try.prog 42 #[.agg (icells oa), .agg (icells ob), .int .i64 0] w fun e w' => ∃ (g cap : Nat), e = Ending.returned (.slice (some ⟨g, 0, none⟩) m cap) ∧ Ints w' w.heap.size g cap (nlN cv) ∧ Below w.heap.size w w' from fun w => (hwk w).mono fun e w' ⟨g, cap, e1, e2, e3⟩ => ⟨g, cap, by rw [e1, ival_val _ _ _ _ hnl], e2, e3⟩)
      have hcu := Lib.hid (show ∀ ga gb w, Arc w ga L oa → Arc w gb L ob → Calls Try.prog 43 #[.slice (some ⟨ga, 0, none⟩) L L, .slice (some ⟨gb, 0, none⟩) L L, .int .i64 0] w fun e w' => ∃ (g cap : Nat), e = Ending.returned (.slice (some ⟨g, 0, none⟩) m cap) ∧ Ints w' w.heap.size g cap (nlN cv) ∧ Below w.heap.size w w' from fun ga gb w hA hB => (hcu ga gb w hA hB).mono fun e w' ⟨g, cap, e1, e2, e3⟩ => ⟨g, cap, by rw [e1, ival_val _ _ _ _ hnl], e2, e3⟩)
      by_cases hmL : m = L
      · have h1c := hone.2 hmL
        rw [h1c] at hcs
        have hcs := Lib.hid hcs
        have HNL := Lib.hid hnl
        have hmI : ¬ (m : Int) < (L : Int) := by omega
        clear h1 h2 h0 h5 hone h1c hcv hml hnl
        refine ⟨nlN cv, 0, by rw [HNL.out]; omega, fun w => ?_, fun w => ?_⟩
        · go_enter Try.func16, Try.ntmps16
          go_wp2_with (first
            | (go_at_call 37; ((with_reducible refine (hk.out _).mono ?_); rintro e w1 ⟨rfl, hB1⟩))
            | (go_at_call 38; ((with_reducible refine (hcs.out _).mono ?_); rintro e w2 ⟨rfl, hB2⟩))
            | (go_at_call 41; ((with_reducible refine (hca.out w2).mono ?_); rintro e w3 ⟨rfl, hB3⟩))
            | (go_at_call 41; ((with_reducible refine (hcb.out _).mono ?_); rintro e w5 ⟨rfl, hB5⟩))
            | (refine wpList_store_own rfl 55 _ _ rfl _ _ rfl rfl 55 _ (Own.new w3 _ _) (row12i (i12s _ (hla.out))) (st12 hla.out) (one12i _) ?_; intro w4 hO4 hN4)
            | (refine wpList_store_own rfl 55 _ _ rfl _ _ rfl rfl 55 _ (Own.new w5 _ _) (row12i (i12s _ (hlb.out))) (st12 hlb.out) (one12i _) ?_; intro w6 hO6 hN6; have hO4b := ((hO4.below hB5 hO4.lt).alloc (.cells (icells z12) 55)).only hN6 (Nat.ne_of_lt (Nat.lt_of_lt_of_le hO4.lt hB5.size)))
            | (refine wpList_load_row rfl 55 (.tmp 7) rfl _ rfl 55 _ (0, 0) _ hO4b Try.underlying55 rfl (row12i (i12s _ hla.out)) ?_)
            | (refine wpList_load_row rfl 55 (.tmp 9) rfl _ rfl 55 _ (0, 0) _ hO6 Try.underlying55 rfl (row12i (i12s _ hlb.out)) ?_)
            | (go_at_call 42; ((with_reducible refine (hwk.out _).mono ?_); rintro e w7 ⟨g, cap, rfl, hI7, hB7⟩)))
          go_ret2
          have b2 := hB1.trans (hB2.mono hB1.size)
          have b3 := b2.trans (hB3.mono b2.size)
          have b4 := (b3.alloc b3.size _).trans (hN4.below.mono b3.size)
          have b5 := b4.trans (hB5.mono b4.size)
          have b6 := (b5.alloc b5.size _).trans (hN6.below.mono b5.size)
          exact ⟨some ⟨g, 0, none⟩, cap, by rw [HNL.out, hmL]; rfl, Mn.ints b6.size hI7, b6.trans (hB7.mono b6.size)⟩
        · go_enter Try.func17, Try.ntmps17
          go_wp2_with (first
            | (go_at_call 39; ((with_reducible refine (hp.out _).mono ?_); rintro e w1 ⟨ga, gb, rfl, hA, hB, hB1⟩))
            | (go_at_call 43; ((with_reducible refine (hcu.out ga gb _ hA hB).mono ?_); rintro e w2 ⟨g, cap, rfl, hI2, hB2⟩)))
          go_ret2
          exact ⟨some ⟨g, 0, none⟩, cap, by rw [HNL.out, hmL]; rfl, Mn.ints hB1.size hI2, hB1.trans (hB2.mono hB1.size)⟩
      · obtain ⟨cc, hcc⟩ : ∃ cc, comps (mf oa) (mf ob) L = cc := ⟨_, rfl⟩
        rw [hcc] at hcs hone
        have hcs := Lib.hid hcs
        have hc1 : ((cc : Int) != 1) = true := by
          have : cc ≠ 1 := fun e => hmL (hone.1 e)
          simp; omega
        have hmI : (m : Int) < (L : Int) := by omega
        clear h1 h2 h0 h5 hone hcc hcv hml hnl
        refine ⟨[], 5, by simp, fun w => ?_, fun w => ?_⟩
        · go_enter Try.func16, Try.ntmps16
          go_wp2_with (first
            | (go_at_call 37; ((with_reducible refine (hk.out _).mono ?_); rintro e w1 ⟨rfl, hB1⟩))
            | (go_at_call 38; ((with_reducible refine (hcs.out _).mono ?_); rintro e w2 ⟨rfl, hB2⟩)))
          go_ret2
          exact ⟨none, 0, rfl, Mn.nil _ _, hB1.trans (hB2.mono hB1.size)⟩
        · go_enter Try.func17, Try.ntmps17
          go_wp2_with (first
            | (go_at_call 39; ((with_reducible refine (hp.out _).mono ?_); rintro e w1 ⟨ga, gb, rfl, hA, hB, hB1⟩))
            | (go_at_call 43; ((with_reducible refine (hcu.out ga gb _ hA hB).mono ?_); rintro e w2 ⟨g, cap, rfl, hI2, hB2⟩)))
          go_ret2
          exact ⟨none, 0, rfl, Mn.nil _ _, hB1.trans (hB2.mono hB1.size)⟩
  · have hb := Lib.hid (fun w => apa_bad s t hm ht _ rfl h0 w)
    obtain ⟨c, hc⟩ : ∃ c, pcode s t = c := ⟨_, rfl⟩
    rw [hc] at h0 hk hb
    have hk := Lib.hid hk
    have hc0 : (c != 0) = true := by simpa using h0
    clear hc h0
    refine ⟨[], c, by simp, fun w => ?_, fun w => ?_⟩
    · go_enter Try.func16, Try.ntmps16
      go_wp2_with (first
        | (go_at_call 37; ((with_reducible refine (hk.out _).mono ?_); rintro e w1 ⟨rfl, hB1⟩)))
      go_ret2
      exact ⟨none, 0, rfl, Mn.nil _ _, hB1⟩
    · go_enter Try.func17, Try.ntmps17
      go_wp2_with (first
        | (go_at_call 39; ((with_reducible refine (hb.out _).mono ?_); rintro e w1 ⟨rfl, hB1⟩)))
      go_ret2
      exact ⟨none, 0, rfl, Mn.nil _ _, hB1⟩
theorem oom_law (s t : ByteArray) (w : World) (hl : s.size ≤ maxLen) (hl2 : t.size ≤ maxLen) :
    Calls Try.prog 5 #[.string s, .string t] w fun e w' => e = .returned (.bool true) ∧ Below w.heap.size w w' := by
  unfold maxLen at hl hl2
  by_cases hm : s.size ≤ 1048576
  · by_cases ht : t.size ≤ 1048576
    · obtain ⟨xs, c, hx, hS, hI⟩ := oom_both s t hm ht
      exact oom_walk s t hm ht w xs hx c hS hI
    · have c1 : ¬ (1048576 : Int) < (s.size : Int) := by omega
      have c2 : (1048576 : Int) < (t.size : Int) := by omega
      clear hm ht
      go_enter Try.func5, Try.ntmps5
      go_wp2
      go_ret
      exact ⟨rfl, Below.refl _ _⟩
  · have c1 : (1048576 : Int) < (s.size : Int) := by omega
    clear hm
    go_enter Try.func5, Try.ntmps5
    go_wp2
    go_ret
    exact ⟨rfl, Below.refl _ _⟩
end Go.Proofs.Ytbikpagoeeelbaa
