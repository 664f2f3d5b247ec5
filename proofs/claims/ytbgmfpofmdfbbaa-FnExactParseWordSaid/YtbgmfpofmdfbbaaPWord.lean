/- Contracts of ParseWord, the program's and the model's, and the law. -/
import Derived.Test.YtbgmfpofmdfbbaaLawVal
import Derived.Test.YtbgmfpofmdfbbaaMark
namespace Go.Proofs.Ytbgmfpofmdfbbaa
open Go.RowKit
set_option linter.unusedVariables false
/-- A call's answer: a list of numbers in memory of its own, and a code. -/
def ResI (xs : List Int) (c : Int) (w : World) (e : Ending) (w' : World) : Prop :=
  ∃ (p : Option Addr) (cap : Nat), e = .returned (.tuple #[.slice p xs.length cap, .int .i64 c]) ∧ Mn w' w.heap.size p xs ∧ Below w.heap.size w w'
def numsT (s : ByteArray) : List Int := s.data.toList.map fun b => (b.toNat : Int) - 48
theorem numsT_len (s : ByteArray) : (numsT s).length = s.size := by simp [numsT]
theorem numsT_get (s : ByteArray) (k : Nat) (h : k < s.size) : (numsT s).getD k 0 = (s[k].toNat : Int) - 48 := by
  unfold numsT
  rw [List.getD_eq_getElem?_getD, List.getElem?_map, get_list s k h]; rfl
theorem cpI_take (xs : List Int) (k : Nat) (h : k < xs.length) : xs.take (k + 1) = xs.take k ++ [xs.getD k 0] := by
  rw [List.take_succ_eq_append_getElem h, List.getD_eq_getElem?_getD, List.getElem?_eq_getElem h]; rfl
/-- What ParseWord answers. -/
def pwRes (n : Int) (s : ByteArray) : List Int × Int := if 2 ≤ n ∧ n ≤ 8 then (if wordB n (numsT s) = true then (numsT s, 0) else ([], 6)) else ([], 2)
theorem isWord_nil (n : Int) : wordB n [] = decide (2 ≤ n ∧ n ≤ 8) := by simp [wordB]
set_option maxRecDepth 100000 in
set_option maxHeartbeats 1000000 in
theorem pwordI_any (n : Int) (s : ByteArray) (w : World) (hx : s.size ≤ 1048576) :
    Calls Try.prog 35 #[.int .i64 n, .string s] w (ResI (pwRes n s).1 (pwRes n s).2 w) := by
  have hnil := Lib.hid (fun w => (show Calls Try.prog 59 #[.int .i64 n, .slice none 0 0] w fun e w' => e = .returned (.bool (wordB n [])) ∧ w' = w from isWordI_any n none 0 [] w (by simp) (Mn.nil w 0).rd))
  by_cases hn : 2 ≤ n ∧ n ≤ 8
  · rw [isWord_nil, show decide (2 ≤ n ∧ n ≤ 8) = true by simp [hn]] at hnil
    by_cases h60 : 60 < s.size
    · have e : pwRes n s = ([], 6) := by unfold pwRes; rw [if_pos hn, if_neg (by unfold wordB; rw [numsT_len]; simp; omega)]
      rw [e]; clear e hn
      have h60' : (60 : Int) < (s.size : Int) := by omega
      go_enter Try.func35, Try.ntmps35
      go_wp2_with (first
        | (go_at_call 59; ((with_reducible refine (hnil.out _).mono ?_); rintro e w1 ⟨rfl, rfl⟩)))
      go_ret2
      exact ⟨none, 0, rfl, Mn.nil _ _, Below.refl _ _⟩
    · obtain ⟨m, hm⟩ : ∃ m, s.size = m := ⟨_, rfl⟩
      have hc := Lib.hid (fun p cap w hR => isWordI_any n p cap (numsT s) w (by rw [numsT_len]; omega) hR)
      have hlen := Lib.hid ((numsT_len s).trans hm)
      rw [hlen.out] at hc
      have hmk := makeI m (by omega)
      have hz := Lib.hid (show icells (List.replicate m 0) = icells (cpI (numsT s) 0) by simp [cpI, hlen.out])
      have h60' : ¬ (60 : Int) < (s.size : Int) := by omega
      obtain ⟨b, hb⟩ : ∃ b, wordB n (numsT s) = b := ⟨_, rfl⟩
      rw [hb] at hc
      have hB := Lib.hid hb
      have hN := Lib.hid hm
      have hn' := Lib.hid hn
      clear hb hn
      go_enter Try.func35, Try.ntmps35
      go_wp2_with (first
        | (go_at_call 59; ((with_reducible refine (hnil.out _).mono ?_); rintro e w1 ⟨rfl, rfl⟩)))
      clear hmk
      go_loopw [19] (fun i wr => ∃ k : Nat, k ≤ m ∧ i = .int .i64 k ∧ Own wr w1.heap.size (icells (cpI (numsT s) k)) 2 ∧ Below w1.heap.size w1 wr) (fun i _ => ((m : Int) - intOf i).toNat)
      case atStart => exact ⟨0, by omega, rfl, by rw [← hz.out, ← hm]; exact Own.new _ _ _, (Below.refl _ _).alloc (Nat.le_refl _) _⟩
      case round =>
        obtain ⟨k, hk, rfl, hO, hBw⟩ := hrel
        have hl := Lib.hid (cpI_len (numsT s) k (by rw [hlen.out]; exact hk))
        by_cases hlt : k < m
        · have hks : k < s.size := by omega
          have hg := numsT_get s k hks
          have hst := cpI_set (numsT s) k (by rw [hlen.out]; exact hlt)
          rw [hg] at hst
          have c2 := hO.cell k
          rw [icells_get _ _ (by rw [hl.out, hlen.out]; exact hlt)] at c2
          have f2 := hO.free k
          have ub : (s[k].toNat : Int) < 256 := by have := s[k].toNat_lt; omega
          have hO2 := hO.set k (.int .i64 ((s[k].toNat : Int) - 48))
          rw [icells_set, hst] at hO2
          have hB2 := hBw.setCell (p := ⟨w1.heap.size, k, none⟩) (by simp) (.int .i64 ((s[k].toNat : Int) - 48))
          have K1 := Lib.hid hO2
          have i1 : (k : Int) < (m : Int) := by omega
          have i2 : (k : Int) < (s.size : Int) := by omega
          clear hO2 hst hg
          go_wp2
          go_roundw
          case rel => exact ⟨k + 1, by omega, by go_num, K1.out, hB2⟩
          case measure => simp [intOf]; omega
        · have hk2 : k = m := by omega
          subst hk2
          have e : cpI (numsT s) k = numsT s := by rw [← hlen.out]; exact cpI_end _
          rw [e] at hO
          clear e
          have hO' := Lib.hid hO
          have hrd := Lib.hid (Rd.own hO)
          clear hO
          cases b with
          | true =>
            have e := Lib.hid (show pwRes n s = (numsT s, 0) by unfold pwRes; rw [if_pos hn'.out, if_pos hB.out])
            go_wp2_with (first
              | (go_at_call 59; ((with_reducible refine (hc.out _ _ _ hrd.out).mono ?_); rintro e w2 ⟨rfl, rfl⟩)))
            go_ret2
            rw [e.out]
            exact ⟨_, k, by show _ = Ending.returned (.tuple #[.slice _ (numsT s).length k, .int .i64 0]); rw [hlen.out]; rfl, Mn.new (Nat.le_refl _) hO'.out, hBw⟩
          | false =>
            have e := Lib.hid (show pwRes n s = ([], 6) by unfold pwRes; rw [if_pos hn'.out, if_neg (by rw [hB.out]; simp)])
            go_wp2_with (first
              | (go_at_call 59; ((with_reducible refine (hc.out _ _ _ hrd.out).mono ?_); rintro e w2 ⟨rfl, rfl⟩)))
            go_ret2
            rw [e.out]
            exact ⟨none, 0, rfl, Mn.nil _ _, hBw⟩
  · rw [isWord_nil, show decide (2 ≤ n ∧ n ≤ 8) = false by simp; omega] at hnil
    have e : pwRes n s = ([], 2) := by unfold pwRes; rw [if_neg hn]
    rw [e]; clear e hn
    go_enter Try.func35, Try.ntmps35
    go_wp2_with (first
      | (go_at_call 59; ((with_reducible refine (hnil.out _).mono ?_); rintro e w1 ⟨rfl, rfl⟩)))
    go_ret2
    exact ⟨none, 0, rfl, Mn.nil _ _, Below.refl _ _⟩
theorem mk0i : ∀ w : World, (Instr.buildSlice 43 0 #[]).run Try.prog w = .ok (.slice (some ⟨w.heap.size, 0, none⟩) 0 0) (w.alloc (.cells #[] 2)) := by
  intro w; kernel_rfl
set_option maxRecDepth 100000 in
set_option maxHeartbeats 1000000 in
theorem pwordS_any (n : Int) (s : ByteArray) (w : World) (hx : s.size ≤ 1048576) :
    Calls Try.prog 34 #[.int .i64 n, .string s] w (ResI (pwRes n s).1 (pwRes n s).2 w) := by
  by_cases hn : 2 ≤ n ∧ n ≤ 8
  · obtain ⟨m, hm⟩ : ∃ m, s.size = m := ⟨_, rfl⟩
    have hc := Lib.hid (fun p cap w hR => isWordS_any n p cap (numsT s) w (by rw [numsT_len]; omega) hR)
    have hlen := Lib.hid ((numsT_len s).trans hm)
    rw [hlen.out] at hc
    have hmk := mk0i
    obtain ⟨b, hb⟩ : ∃ b, wordB n (numsT s) = b := ⟨_, rfl⟩
    rw [hb] at hc
    have hB := Lib.hid hb
    have hN := Lib.hid hm
    have hn' := Lib.hid hn
    clear hb hn
    go_enter Try.func34, Try.ntmps34
    go_wp2_with (first
      | (go_at_call 48; ((with_reducible refine (inS_t n 2 8 _ hn'.out.1 hn'.out.2).mono ?_); rintro e w1 ⟨rfl, rfl⟩)))
    have hIa : Ints (w.alloc (.cells #[] 2)) w.heap.size w.heap.size 0 [] := Ints.new _ _ _ _ (by simp) (by simp) (by decide) #[] rfl
    have hBa : Below w.heap.size w (w.alloc (.cells #[] 2)) := (Below.refl _ _).alloc (Nat.le_refl _) _
    clear hmk
    go_loopw [6, 7] (fun v i wr => ∃ (k g cap : Nat), k ≤ m ∧ i = .int .i64 k ∧ v = .slice (some ⟨g, 0, none⟩) k cap ∧ Ints wr w.heap.size g cap ((numsT s).take k) ∧ Below w.heap.size w wr) (fun _ i _ => ((m : Int) - intOf i).toNat)
    case atStart => exact ⟨0, _, _, by omega, rfl, rfl, hIa, hBa⟩
    case round =>
      clear hIa hBa
      obtain ⟨k, g, cap, hk, rfl, rfl, hI, hBw⟩ := hrel
      have htl := Lib.hid (show ((numsT s).take k).length = k by rw [List.length_take, hlen.out]; omega)
      by_cases hlt : k < m
      · have hks : k < s.size := by omega
        have hg := numsT_get s k hks
        have hst := Lib.hid (show (numsT s).take k ++ [(s[k].toNat : Int) - 48] = (numsT s).take (k + 1) by rw [← hg, cpI_take _ _ (by rw [hlen.out]; exact hlt)])
        have ub : (s[k].toNat : Int) < 256 := by have := s[k].toNat_lt; omega
        have i1 : (k : Int) < (m : Int) := by omega
        have i2 : (k : Int) < (s.size : Int) := by omega
        have hsz := hBw.size
        clear hg
        go_wp2_with (first
          | (refine wpList_append_ints rfl (.tmp 18) (.tmp 24) rfl w.heap.size g cap ((numsT s).take k) ((s[k].toNat : Int) - 48) (by rw [ival, htl.out]; rfl) (hI.alloc _) ⟨wr.heap.size, 0, none⟩ 1 rfl ((Own.new _ _ _).cell 0) (by rw [htl.out]; omega) (by simp <;> omega) ?_; intro g2 cap2 w2 hI2 hG2))
        have hB2 : Below w.heap.size w w2 := (hBw.alloc hsz _).grown hG2 (by simp; omega) (fun k e => by have := hI.1; simp at e; omega)
        rw [hst.out] at hI2
        clear hI hG2 hBw
        go_wp2
        go_roundw
        case rel => exact ⟨k + 1, g2, cap2, by omega, by go_num, by simp [ival, htl.out], hI2, hB2⟩
        case measure => simp [intOf]; omega
      · have hk2 : k = m := by omega
        subst hk2
        have e : (numsT s).take k = numsT s := List.take_of_length_le (by rw [hlen.out]; exact Nat.le_refl _)
        rw [e] at hI
        clear e
        have hM := Lib.hid (Mn.ints (Nat.le_refl _) hI)
        have hrd := Lib.hid hM.out.rd
        clear hI
        cases b with
        | true =>
          have e := Lib.hid (show pwRes n s = (numsT s, 0) by unfold pwRes; rw [if_pos hn'.out, if_pos hB.out])
          go_wp2_with (first
            | (go_at_call 57; ((with_reducible refine (hc.out _ _ _ hrd.out).mono ?_); rintro e w2 ⟨rfl, rfl⟩)))
          go_ret2
          rw [e.out]
          exact ⟨_, cap, by show _ = Ending.returned (.tuple #[.slice _ (numsT s).length cap, .int .i64 0]); rw [hlen.out]; rfl, hM.out, hBw⟩
        | false =>
          have e := Lib.hid (show pwRes n s = ([], 6) by unfold pwRes; rw [if_pos hn'.out, if_neg (by rw [hB.out]; simp)])
          go_wp2_with (first
            | (go_at_call 57; ((with_reducible refine (hc.out _ _ _ hrd.out).mono ?_); rintro e w2 ⟨rfl, rfl⟩)))
          go_ret2
          rw [e.out]
          exact ⟨none, 0, rfl, Mn.nil _ _, hBw⟩
  · have e : pwRes n s = ([], 2) := by unfold pwRes; rw [if_neg hn]
    have hn' := Lib.hid (show n < 2 ∨ 8 < n by omega)
    rw [e]; clear e hn
    go_enter Try.func34, Try.ntmps34
    go_wp2_with (first
      | (go_at_call 48; ((with_reducible refine (inS_f n 2 8 _ hn'.out).mono ?_); rintro e w1 ⟨rfl, rfl⟩)))
    go_ret2
    exact ⟨none, 0, rfl, Mn.nil _ _, Below.refl _ _⟩
set_option maxRecDepth 100000 in
set_option maxHeartbeats 2000000 in
theorem ParseWord_walk (n : Int) (s : ByteArray) (w : World) (hx : s.size ≤ 1048576) (xs : List Int) (hl : xs.length ≤ 1048576) (c : Int)
    (hS : ∀ w, Calls Try.prog 34 #[.int .i64 n, .string s] w (ResI xs c w))
    (hI : ∀ w, Calls Try.prog 35 #[.int .i64 n, .string s] w (ResI xs c w)) :
    Calls Try.prog 10 #[.int .i64 n, .string s] w fun e w' => e = .returned (.bool true) ∧ Below w.heap.size w w' := by
  have hS' := Lib.hid hS
  have hI' := Lib.hid hI
  obtain ⟨m, hm⟩ : ∃ m, xs.length = m := ⟨_, rfl⟩
  have he := Lib.hid (fun p q cap cap' w hR hQ => eqI_same p q cap cap' xs (by omega) w hR hQ)
  have hk := Lib.hid (fun B p cap w hM hB => mark_any B p cap xs hl 1 (by omega) (by omega) w hM hB)
  have hh := Lib.hid (fun p cap w hR => held_any p cap m (by omega) 1 (by omega) (by omega) w hR)
  have hx' : ¬ (1048576 : Int) < (s.size : Int) := by omega
  have hrs := Lib.hid (show ∀ w e w', ResI xs c w e w' → ∃ (p : Option Addr) (cap : Nat), e = .returned (.tuple #[.slice p m cap, .int .i64 c]) ∧ Mn w' w.heap.size p xs ∧ Below w.heap.size w w' from fun w e w' h => by
    obtain ⟨p, cap, h1, h2⟩ := h
    rw [hm] at h1
    exact ⟨p, cap, h1, h2⟩)
  rw [hm] at he hk
  clear hS hI hm hl
  go_enter Try.func10, Try.ntmps10
  go_wp2_with (first
    | (go_at_call 37; ((with_reducible refine (hh.out _ _ w6 ((hM4.below hB5 (Nat.le_refl _)).below hB6 (Nat.le_refl _)).rd).mono ?_); rintro e w7 ⟨rfl, rfl⟩))
    | (go_at_call 29; ((with_reducible refine (he.out _ _ _ _ w5 hM5.rd (Mn.rd (hMq4.below hB5 (Nat.le_refl _)))).mono ?_); rintro e w6 ⟨rfl, hB6⟩))
    | (go_at_call 35; ((with_reducible refine (hI'.out w4b).mono ?_); rintro e w5 hres5; obtain ⟨p5, cap5, rfl, hM5, hB5⟩ := hrs.out _ _ _ hres5))
    | (go_at_call 37; ((with_reducible refine (hh.out _ _ w4 hM4.rd).mono ?_); rintro e w4b ⟨rfl, rfl⟩))
    | (go_at_call 36; ((with_reducible refine (hk.out w1.heap.size _ _ w3 (hM2.below hB3 (Nat.le_refl _)) (Nat.le_trans hB2.size hB3.size)).mono ?_); rintro e w4 ⟨rfl, hM4, hB4⟩; have hMq4 : Mn w4 w.heap.size q xs := ((hMq.below hB2 (Nat.le_refl _)).below hB3 (Nat.le_refl _)) |> fun h => (hMq.below ((hB2.trans (hB3.mono hB2.size)).trans hB4) (Nat.le_refl _))))
    | (go_at_call 29; ((with_reducible refine (he.out _ _ _ _ w2 hM2.rd (Mn.rd (hMq.below hB2 (Nat.le_refl _)))).mono ?_); rintro e w3 ⟨rfl, hB3⟩))
    | (go_at_call 35; ((with_reducible refine (hI'.out w1).mono ?_); rintro e w2 hres2; obtain ⟨p2, cap2, rfl, hM2, hB2⟩ := hrs.out _ _ _ hres2))
    | (go_at_call 34; ((with_reducible refine (hS'.out w).mono ?_); rintro e w1 hres1; obtain ⟨q, cap1, rfl, hMq, hB1⟩ := hrs.out _ _ _ hres1)))
  go_ret
  have b2 := hB1.trans (hB2.mono hB1.size)
  have b3 := b2.trans (hB3.mono b2.size)
  have b4 := b3.trans (hB4.mono hB1.size)
  have b5 := b4.trans (hB5.mono b4.size)
  exact ⟨rfl, b5.trans (hB6.mono b5.size)⟩
theorem pword_big (n : Int) (s : ByteArray) (w : World) (hm : s.size ≤ maxLen) (h : 1048576 < s.size) : Calls Try.prog 10 #[.int .i64 n, .string s] w fun e w' => e = .returned (.bool true) ∧ Below w.heap.size w w' := by
  unfold maxLen at hm
  have h' : (1048576 : Int) < (s.size : Int) := by omega
  go_enter Try.func10, Try.ntmps10
  go_wp2
  go_ret
  exact ⟨rfl, Below.refl _ _⟩
theorem pwRes_len (n : Int) (s : ByteArray) : (pwRes n s).1.length ≤ s.size := by
  unfold pwRes
  split
  · split
    · exact Nat.le_of_eq (numsT_len s)
    · simp
  · simp
theorem pword_law (n : Int) (s : ByteArray) (w : World) (hm : s.size ≤ maxLen) :
    Calls Try.prog 10 #[.int .i64 n, .string s] w fun e w' => e = .returned (.bool true) ∧ Below w.heap.size w w' := by
  by_cases h : s.size ≤ 1048576
  · exact ParseWord_walk n s w h _ (Nat.le_trans (pwRes_len n s) h) _ (fun w => pwordS_any n s w h) (fun w => pwordI_any n s w h)
  · exact pword_big n s w hm (by omega)
end Go.Proofs.Ytbgmfpofmdfbbaa
