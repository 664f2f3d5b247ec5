/- FusionOf: program, model and law. -/
import Derived.Test.YtmcffhafonemeaaAdmL
import Derived.Test.YtmcffhafonemeaaMark
namespace Go.Proofs.Ytmcffhafonemeaa
open Go.RowKit
set_option linter.unusedVariables false
/-- The labels below n that are admissible with two. -/
def fusL (z a b : Int) : Nat → List Int
  | 0 => []
  | n + 1 => if admB z a b n then fusL z a b n ++ [(n : Int)] else fusL z a b n
theorem fusL_len (z a b : Int) (n : Nat) : (fusL z a b n).length ≤ n := by
  induction n with
  | zero => simp [fusL]
  | succ n ih => 
    unfold fusL; split
    · simp; omega
    · omega
set_option maxRecDepth 100000 in
theorem fusI_bad (p c a b : Int) (w : World) (h : modB p c = false) :
    Calls Try.prog 10 #[.int .i64 p, .int .i64 c, .int .i64 a, .int .i64 b] w (ResI [] 2 w) := by
  have hc := Lib.hid (modI_f h w)
  clear h
  go_enter Try.func10, Try.ntmps10
  go_wp2_with (first
    | (go_at_call 34; ((with_reducible refine (hc.out).mono ?_); rintro e w1 ⟨rfl, rfl⟩)))
  go_ret2
  exact ⟨none, 0, rfl, Mn.nil _ _, Below.refl _ _⟩
set_option maxRecDepth 100000 in
theorem fusI_ok (p c a b : Int) (w : World) (h : modB p c = true) :
    Calls Try.prog 10 #[.int .i64 p, .int .i64 c, .int .i64 a, .int .i64 b] w (ResI (if labB (fz p c) [a, b] then fusL (fz p c) a b (fz p c) else []) (if labB (fz p c) [a, b] then 0 else 2) w) := by
  obtain ⟨hpr, hp, hp2, c0, c1⟩ := modB_spec h
  obtain ⟨z0, z1, z97⟩ := has_zero p c hpr c0 c1
  have hc := Lib.hid ((modI_t h w).mono fun e w' h => (show e = .returned (.bool true) ∧ w = w' from ⟨h.1, h.2.symm⟩))
  have hz := Lib.hid (zeroI_any p c w h)
  clear h z0
  generalize fz p c = z at *
  have hl := Lib.hid (fun w1 => labI2 z a b w1)
  cases hL : labB z [a, b] with
  | false =>
    rw [hL] at hl
    rw [if_neg (by simp), if_neg (by simp)]
    clear hL
    go_enter Try.func10, Try.ntmps10
    go_wp2_with (first
      | (go_at_call 34; ((with_reducible refine (hc.out).mono ?_); rintro e w1 ⟨rfl, rfl⟩))
      | (go_at_call 35; ((with_reducible refine (hz.out).mono ?_); rintro e w2 ⟨rfl, hB⟩))
      | (go_at_call 36; ((with_reducible refine (hl.out _).mono ?_); rintro e w3 ⟨rfl, rfl⟩)))
    go_ret2
    exact ⟨none, 0, rfl, Mn.nil _ _, hB.alloc hB.size _⟩
  | true =>
    rw [hL] at hl
    rw [if_pos rfl, if_pos rfl]
    obtain ⟨⟨a0, a1⟩, b0, b1⟩ := labB_two hL
    have ha := Lib.hid (fun (d : Nat) (hd : d < z) w1 => admI_any z a b d w1 (by omega) (by omega) a0 a1 b0 b1 (by omega) (by omega))
    have hln := Lib.hid (fusL_len z a b)
    clear hL
    go_enter Try.func10, Try.ntmps10
    go_wp2_with (first
      | (go_at_call 34; ((with_reducible refine (hc.out).mono ?_); rintro e w1 ⟨rfl, rfl⟩))
      | (go_at_call 35; ((with_reducible refine (hz.out).mono ?_); rintro e w2 ⟨rfl, hB⟩))
      | (go_at_call 36; ((with_reducible refine (hl.out _).mono ?_); rintro e w3 ⟨rfl, rfl⟩)))
    have hB5 := hB.alloc hB.size (.cells #[.int .i64 a, .int .i64 b] 2)
    have hI0 := Lib.hid (Ints.new (w2.alloc (.cells #[.int .i64 a, .int .i64 b] 2)) w.heap.size (w2.heap.size + 1) 0 hB5.size (by simp) (by unfold maxLen; omega) #[] rfl)
    have hB6 := Lib.hid (hB5.alloc hB5.size (.cells #[] 2))
    generalize hW : (w2.alloc (.cells #[.int .i64 a, .int .i64 b] 2)).alloc (.cells #[] 2) = w5 at *
    clear hW hB5 hl hc hz hB
    go_loopw [11, 28] (fun v i wr => ∃ (k g cap : Nat), k ≤ z ∧ i = .int .i64 k ∧ v = .slice (some ⟨g, 0, none⟩) (fusL z a b k).length cap ∧ Ints wr w.heap.size g cap (fusL z a b k) ∧ Below w.heap.size w wr) (fun _ i _ => ((z : Int) - intOf i).toNat)
    case atStart => exact ⟨0, _, 0, by omega, rfl, rfl, hI0.out, hB6.out⟩
    case round =>
      clear hI0 hB6
      obtain ⟨k, g, cap, hk, rfl, rfl, hI, hB⟩ := hrel
      have hlen := hln.out k
      by_cases hlt : k < z
      · have hak := ha.out k hlt
        cases hb : admB z a b k with
        | true =>
          rw [hb] at hak
          have hak' := Lib.hid hak
          have hnx := Lib.hid (show fusL z a b (k + 1) = fusL z a b k ++ [(k : Int)] by rw [fusL, if_pos hb])
          have hsz := hB.size
          have hal := hB.alloc hB.size (.cells #[.int .i64 k] 2)
          clear hb hak
          go_wp2_with (first
            | (go_at_call 37; ((with_reducible refine (hak'.out _).mono ?_); rintro e w7 ⟨rfl, rfl⟩))
            | (refine wpList_append_ints rfl (.tmp 36) (.tmp 38) rfl w.heap.size g cap (fusL z a b k) k rfl (hI.alloc _) ⟨wr.heap.size, 0, none⟩ 1 rfl ((Own.new _ _ _).cell 0) (by omega) (by simp; omega) ?_; intro g2 cap2 w8 hI2 hG2; rw [← hnx.out] at hI2 ⊢; unfold ival))
          have hB8 := hal.grown hG2 (by simp; omega) (fun b e => by have := hI.1; simp at e; omega)
          go_roundw
          case rel => exact ⟨k + 1, g2, cap2, by omega, by go_num, rfl, hI2, hB8⟩
          case measure => simp [intOf]; omega
        | false =>
          rw [hb] at hak
          have hak' := Lib.hid hak
          have hnx := Lib.hid (show fusL z a b (k + 1) = fusL z a b k by rw [fusL, if_neg (by rw [hb]; simp)])
          clear hb hak
          go_wp2_with (first
            | (go_at_call 37; ((with_reducible refine (hak'.out _).mono ?_); rintro e w7 ⟨rfl, rfl⟩)))
          go_roundw
          case rel => exact ⟨k + 1, g, cap, by omega, by go_num, by rw [hnx.out], by rw [hnx.out]; exact hI, hB⟩
          case measure => simp [intOf]; omega
      · obtain rfl : k = z := by omega
        go_wp2
        go_ret2
        exact ⟨_, _, rfl, Mn.ints (Nat.le_refl _) hI, hB⟩
set_option maxRecDepth 100000 in
theorem fusS_bad (p c a b : Int) (w : World) (hr : -9223372036854775808 ≤ p ∧ p ≤ 9223372036854775807) (h : modB p c = false) :
    Calls Try.prog 11 #[.int .i64 p, .int .i64 c, .int .i64 a, .int .i64 b] w (ResI [] 2 w) := by
  have hc := Lib.hid (fun v w => labS_bad p c v w hr h)
  clear h hr
  go_enter Try.func11, Try.ntmps11
  go_wp2_with (first
    | (go_at_call 30; ((with_reducible refine (hc.out _ _).mono ?_); rintro e w1 ⟨rfl, rfl⟩)))
  go_ret2
  exact ⟨none, 0, rfl, Mn.nil _ _, (Below.refl _ _).alloc (Nat.le_refl _) _⟩
set_option maxRecDepth 100000 in
theorem fusS_ok (p c a b : Int) (w : World) (h : modB p c = true) :
    Calls Try.prog 11 #[.int .i64 p, .int .i64 c, .int .i64 a, .int .i64 b] w (ResI (if labB (fz p c) [a, b] then fusL (fz p c) a b (fz p c) else []) (if labB (fz p c) [a, b] then 0 else 2) w) := by
  obtain ⟨hpr, hp, hp2, c0, c1⟩ := modB_spec h
  obtain ⟨z0, z1, z97⟩ := has_zero p c hpr c0 c1
  have hl0 := fun w1 => labS2 p c a b h w1
  clear h z0
  generalize fz p c = z at *
  cases hL : labB z [a, b] with
  | false =>
    simp only [hL, Bool.false_eq_true, if_false] at hl0
    have hl := Lib.hid hl0
    rw [if_neg (by simp), if_neg (by simp)]
    clear hL hl0
    go_enter Try.func11, Try.ntmps11
    go_wp2_with (first
      | (go_at_call 30; ((with_reducible refine (hl.out _).mono ?_); rintro e w3 ⟨rfl, rfl⟩)))
    go_ret2
    exact ⟨none, 0, rfl, Mn.nil _ _, (Below.refl _ _).alloc (Nat.le_refl _) _⟩
  | true =>
    simp only [hL, if_true] at hl0
    have hl := Lib.hid hl0
    clear hl0
    rw [if_pos rfl, if_pos rfl]
    obtain ⟨⟨a0, a1⟩, b0, b1⟩ := labB_two hL
    have ha := Lib.hid (fun (d : Nat) (hd : d < z) w1 => admS_any z a b d w1 (by omega) (by omega) a0 a1 b0 b1 (by omega) (by omega))
    have hln := Lib.hid (fusL_len z a b)
    clear hL
    go_enter Try.func11, Try.ntmps11
    go_wp2_with (first
      | (go_at_call 30; ((with_reducible refine (hl.out _).mono ?_); rintro e w3 ⟨rfl, rfl⟩)))
    have hB5 := (Below.refl w.heap.size w).alloc (Nat.le_refl _) (.cells #[.int .i64 a, .int .i64 b] 2)
    have hI0 := Lib.hid (Ints.new (w.alloc (.cells #[.int .i64 a, .int .i64 b] 2)) w.heap.size (w.heap.size + 1) 0 hB5.size (by simp) (by unfold maxLen; omega) #[] rfl)
    have hB6 := Lib.hid (hB5.alloc hB5.size (.cells #[] 2))
    generalize hW : (w.alloc (.cells #[.int .i64 a, .int .i64 b] 2)).alloc (.cells #[] 2) = w5 at *
    clear hW hB5 hl
    go_loopw [12, 13] (fun v i wr => ∃ (k g cap : Nat), k ≤ z ∧ i = .int .i64 k ∧ v = .slice (some ⟨g, 0, none⟩) (fusL z a b k).length cap ∧ Ints wr w.heap.size g cap (fusL z a b k) ∧ Below w.heap.size w wr) (fun _ i _ => ((z : Int) - intOf i).toNat)
    case atStart => exact ⟨0, _, 0, by omega, rfl, rfl, hI0.out, hB6.out⟩
    case round =>
      clear hI0 hB6
      obtain ⟨k, g, cap, hk, rfl, rfl, hI, hB⟩ := hrel
      have hlen := hln.out k
      by_cases hlt : k < z
      · have hak := ha.out k hlt
        cases hb : admB z a b k with
        | true =>
          rw [hb] at hak
          have hak' := Lib.hid hak
          have hnx := Lib.hid (show fusL z a b (k + 1) = fusL z a b k ++ [(k : Int)] by rw [fusL, if_pos hb])
          have hsz := hB.size
          have hal := hB.alloc hB.size (.cells #[.int .i64 k] 2)
          clear hb hak
          go_wp2_with (first
            | (go_at_call 31; ((with_reducible refine (hak'.out _).mono ?_); rintro e w7 ⟨rfl, rfl⟩))
            | (refine wpList_append_ints rfl (.tmp 37) (.tmp 39) rfl w.heap.size g cap (fusL z a b k) k rfl (hI.alloc _) ⟨wr.heap.size, 0, none⟩ 1 rfl ((Own.new _ _ _).cell 0) (by omega) (by simp; omega) ?_; intro g2 cap2 w8 hI2 hG2; rw [← hnx.out] at hI2 ⊢; unfold ival))
          have hB8 := hal.grown hG2 (by simp; omega) (fun b e => by have := hI.1; simp at e; omega)
          go_roundw
          case rel => exact ⟨k + 1, g2, cap2, by omega, by go_num, rfl, hI2, hB8⟩
          case measure => simp [intOf]; omega
        | false =>
          rw [hb] at hak
          have hak' := Lib.hid hak
          have hnx := Lib.hid (show fusL z a b (k + 1) = fusL z a b k by rw [fusL, if_neg (by rw [hb]; simp)])
          clear hb hak
          go_wp2_with (first
            | (go_at_call 31; ((with_reducible refine (hak'.out _).mono ?_); rintro e w7 ⟨rfl, rfl⟩)))
          go_roundw
          case rel => exact ⟨k + 1, g, cap, by omega, by go_num, by rw [hnx.out], by rw [hnx.out]; exact hI, hB⟩
          case measure => simp [intOf]; omega
      · obtain rfl : k = z := by omega
        go_wp2
        go_ret2
        exact ⟨_, _, rfl, Mn.ints (Nat.le_refl _) hI, hB⟩
theorem fus_both (p c a b : Int) (hr : -9223372036854775808 ≤ p ∧ p ≤ 9223372036854775807) : ∃ (xs : List Int) (k : Int), xs.length ≤ 100000 ∧ (∀ w, Calls Try.prog 11 #[.int .i64 p, .int .i64 c, .int .i64 a, .int .i64 b] w (ResI xs k w)) ∧ (∀ w, Calls Try.prog 10 #[.int .i64 p, .int .i64 c, .int .i64 a, .int .i64 b] w (ResI xs k w)) := by
  cases h : modB p c with
  | true => exact ⟨_, _, by
      obtain ⟨hpr, hp, hp2, c0, c1⟩ := modB_spec h
      have := (has_zero p c hpr c0 c1).2.2
      have := fusL_len (fz p c) a b (fz p c)
      split
      · omega
      · simp, fun w => fusS_ok p c a b w h, fun w => fusI_ok p c a b w h⟩
  | false => exact ⟨[], 2, by simp, fun w => fusS_bad p c a b w hr h, fun w => fusI_bad p c a b w h⟩
end Go.Proofs.Ytmcffhafonemeaa
