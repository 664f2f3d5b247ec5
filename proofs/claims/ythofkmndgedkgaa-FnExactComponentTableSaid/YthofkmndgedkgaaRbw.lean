/- Arches that are joined; rainbows, the program's and the model's; RainbowOf and its law. -/
import Derived.Test.YthofkmndgedkgaaAtx
import Derived.Test.YthofkmndgedkgaaAri
import Derived.Test.YthofkmndgedkgaaSpecA
import Derived.Test.YthofkmndgedkgaaLawA
namespace Go.Proofs.Ythofkmndgedkgaa
open Go.RowKit
set_option linter.unusedVariables false
set_option linter.unusedSimpArgs false
set_option maxRecDepth 100000 in
theorem joinA_any (b n : Nat) (ms : List Int) (hms : ms.length = n) (i j : Int) (w : World) (ho : Own w b (icells ms) 2) (hi : 0 ≤ i) (hi2 : i < n) (hj : 0 ≤ j) (hj2 : j < n) :
    Calls Try.prog 99 #[.slice (some ⟨b, 0, none⟩) n n, .int .i64 i, .int .i64 j] w fun e w' => e = .returned (.tuple #[]) ∧ Own w' b (icells (joinL ms i j)) 2 ∧ Only b w w' := by
  have c1 : w.cell? ⟨b, i.toNat, none⟩ = some (.int .i64 (ms.getD i.toNat 0)) := by rw [ho.cell, icells_get _ _ (by omega)]
  have c2 : (w.setCell ⟨b, i.toNat, none⟩ (.int .i64 j)).cell? ⟨b, j.toNat, none⟩ = some (.int .i64 ((ms.set i.toNat j).getD j.toNat 0)) := by rw [(ho.set _ _).cell, icells_set, icells_get _ _ (by simp; omega)]
  have f1 : w.frozen? ⟨b, i.toNat, none⟩ = false := ho.free _
  have f2 : w.frozen? ⟨b, j.toNat, none⟩ = false := ho.free _
  have hh := Lib.hid hms
  clear hms
  go_enter Try.func99, Try.ntmps99
  go_wp2
  go_end0
  refine ⟨rfl, ?_, (Only.set _ _ _ _).trans (Only.set _ _ _ _)⟩
  have := (ho.set i.toNat (.int .i64 j)).set j.toNat (.int .i64 i)
  rwa [icells_set, icells_set] at this
def rbL (m : Nat) : Nat → List Int
  | 0 => List.replicate (2 * m) 0
  | k + 1 => joinL (rbL m k) k (2 * (m : Int) - 1 - k)
theorem rbL_len (m k : Nat) : (rbL m k).length = 2 * m := by
  induction k with
  | zero => simp [rbL]
  | succ k ih => rw [rbL, joinL_len, ih]
def rbS (m : Nat) : ByteArray := strT (rbL m m) (2 * m)
def rmL (m : Nat) : Nat → List Int
  | 0 => []
  | k + 1 => rmL m k ++ [if k < m then 40 else 41]
theorem rmL_len (m k : Nat) : (rmL m k).length = k := by
  induction k with
  | zero => rfl
  | succ k ih => rw [rmL, List.length_append, ih]; rfl
theorem rm_str (m : Nat) (h1 : 1 ≤ m) (h6 : m ≤ 6) : strOfNums (rmL m (2 * m)) = rbS m := by
  have e : rmL m (2 * m) = MI (txt (rbL m m) (2 * m)) := by
    have h : m = 1 ∨ m = 2 ∨ m = 3 ∨ m = 4 ∨ m = 5 ∨ m = 6 := by omega
    rcases h with rfl | rfl | rfl | rfl | rfl | rfl <;> decide +kernel
  rw [e, MI_str]; rfl
set_option maxRecDepth 100000 in
set_option maxHeartbeats 1000000 in
theorem rainbow_any (m : Nat) (h1 : 1 ≤ m) (h6 : m ≤ 6) (w : World) :
    Calls Try.prog 71 #[.int .i64 m] w fun e w' => ∃ g, w.heap.size ≤ g ∧ e = .returned (.slice (some ⟨g, 0, none⟩) (2 * m : Nat) (2 * m : Nat)) ∧ Own w' g (icells (rbL m m)) 2 ∧ Below w.heap.size w w' := by
  have hmk := makeA (2 * m) (by omega)
  rw [show ((2 * m : Nat) : Int) = 2 * (m : Int) by omega] at hmk
  go_enter Try.func71, Try.ntmps71
  go_wp2
  clear hmk
  go_loopw [9] (fun i wr => ∃ k : Nat, k ≤ m ∧ i = .int .i64 k ∧ Own wr w.heap.size (icells (rbL m k)) 2 ∧ Below w.heap.size w wr) (fun i _ => ((m : Int) - intOf i).toNat)
  case atStart => exact ⟨0, by omega, rfl, Own.new _ _ _, (Below.refl _ _).alloc (Nat.le_refl _) _⟩
  case round =>
    obtain ⟨k, hk, rfl, hO, hB⟩ := hrel
    by_cases hlt : k < m
    · have hltI : (k : Int) < m := by omega
      have hll := Lib.hid (rbL_len m k)
      have HJ := Lib.hid (show ∀ w', Own w' w.heap.size (icells (rbL m k)) 2 → _ from fun w' ho => joinA_any w.heap.size (2 * m) (rbL m k) (rbL_len m k) k (2 * (m : Int) - 1 - k) w' ho (by omega) (by omega) (by omega) (by omega))
      go_wp2_with (first
        | (go_at_call 99; ((with_reducible refine (HJ.out _ hO).mono ?_); rintro e w2 ⟨rfl, hO2, hN2⟩)))
      have hB2 := hB.trans (hN2.below.mono (Nat.le_refl _))
      go_wp2
      go_roundw
      case rel => exact ⟨k + 1, by omega, by go_num, hO2, hB2⟩
      case measure => simp [intOf]; omega
    · have e : k = m := by omega
      subst e
      go_wp2
      go_ret
      exact ⟨_, Nat.le_refl _, rfl, hO, hB⟩
set_option maxRecDepth 100000 in
set_option maxHeartbeats 1000000 in
theorem rbS_any (m : Nat) (h1 : 1 ≤ m) (h6 : m ≤ 6) (w : World) :
    Calls Try.prog 70 #[.int .i64 m] w fun e w' => e = .returned (.string (rbS m)) ∧ Below w.heap.size w w' := by
  have hmk := mk0b
  go_enter Try.func70, Try.ntmps70
  go_wp2
  have hIa : Bys (w.alloc (.cells #[] 5)) w.heap.size w.heap.size 0 [] := Bys.new _ _ _ _ (by simp) (by simp) (by decide) #[] rfl
  have hBa : Below w.heap.size w (w.alloc (.cells #[] 5)) := (Below.refl _ _).alloc (Nat.le_refl _) _
  clear hmk
  go_loopw [3, 4] (fun v i wr => ∃ (k : Nat) (g cap : Nat), k ≤ 2 * m ∧ i = .int .i64 k ∧ v = .slice (some ⟨g, 0, none⟩) k cap ∧ Bys wr w.heap.size g cap (rmL m k) ∧ Below w.heap.size w wr) (fun _ i _ => (2 * m - intOf i).toNat)
  case atStart => exact ⟨0, _, _, by omega, rfl, rfl, hIa, hBa⟩
  case round =>
    clear hIa hBa
    obtain ⟨k, g, cap, hk, rfl, rfl, hI, hB⟩ := hrel
    have hcl := Lib.hid (rmL_len m k)
    have hs := hB.size
    by_cases hlt : k < 2 * m
    · have hltI : (k : Int) < 2 * (m : Int) := by omega
      by_cases g0 : k < m
      · have g1 : (k : Int) < m := by omega
        have e1 := Lib.hid (show rmL m (k + 1) = rmL m k ++ [40] by rw [rmL, if_pos g0])
        go_wp2_with (first
          | (refine wpList_append_bys rfl (.tmp 15) (.tmp 16) rfl w.heap.size g cap (rmL m k) 40 (by rw [bval, hcl.out]; rfl) (hI.alloc _) ⟨wr.heap.size, 0, none⟩ 1 rfl ((Own.new _ _ _).cell 0) (by rw [hcl.out]; omega) (by simp; omega) ?_; intro g2 cap2 w2 hI2 hG2))
        have hB2 : Below w.heap.size w w2 := (hB.alloc hs _).grown hG2 (by simp; omega) (fun k e => by have := hI.1; simp at e; omega)
        rw [← e1.out] at hI2
        clear hB hI hG2
        go_wp2
        go_roundw
        case rel => exact ⟨k + 1, g2, cap2, by omega, by go_num, by simp [bval, hcl.out], hI2, hB2⟩
        case measure => simp [intOf]; omega
      · have g1 : ¬ (k : Int) < m := by omega
        have e1 := Lib.hid (show rmL m (k + 1) = rmL m k ++ [41] by rw [rmL, if_neg g0])
        go_wp2_with (first
          | (refine wpList_append_bys rfl (.tmp 18) (.tmp 19) rfl w.heap.size g cap (rmL m k) 41 (by rw [bval, hcl.out]; rfl) (hI.alloc _) ⟨wr.heap.size, 0, none⟩ 1 rfl ((Own.new _ _ _).cell 0) (by rw [hcl.out]; omega) (by simp; omega) ?_; intro g2 cap2 w2 hI2 hG2))
        have hB2 : Below w.heap.size w w2 := (hB.alloc hs _).grown hG2 (by simp; omega) (fun k e => by have := hI.1; simp at e; omega)
        rw [← e1.out] at hI2
        clear hB hI hG2
        go_wp2
        go_roundw
        case rel => exact ⟨k + 1, g2, cap2, by omega, by go_num, by simp [bval, hcl.out], hI2, hB2⟩
        case measure => simp [intOf]; omega
    · have hk2 : k = 2 * m := by omega
      subst hk2
      have hlen := rmL_len m (2 * m)
      obtain ⟨_, _, _, cur, hcur, hcs, hct⟩ := hI
      have hcv := run_convert_bytes_arg wr 45 5 Try.underlying45 Try.underlying5 g 0 (2 * m) cap (rmL m (2 * m)) hlen
        (fun i hi => by
          rw [Nat.zero_add, hcur.cell]
          have e : (cur.toList.take (rmL m (2 * m)).length)[i]? = ((rmL m (2 * m)).map (Value.int .u8))[i]? := by rw [hct]
          rw [List.getElem?_take_of_lt (by rw [hlen]; exact hi)] at e
          simpa [show i < (rmL m (2 * m)).length by rw [hlen]; exact hi] using e) 9 Try.underlying9
      rw [rm_str m h1 h6] at hcv
      have HL := Lib.hid hlen
      clear hlen hct hcs
      go_wp2
      go_ret
      exact ⟨rfl, hB⟩
/-- What RainbowOf answers. -/
def rboV (m : Int) : Value := if 1 ≤ m ∧ m ≤ 6 then .tuple #[.string (rbS m.toNat), .int .i64 0] else .tuple #[.string ⟨#[]⟩, .int .i64 2]
theorem rboI_any (m : Int) (w : World) : Calls Try.prog 56 #[.int .i64 m] w fun e w' => e = .returned (rboV m) ∧ Below w.heap.size w w' := by
  by_cases h : 1 ≤ m ∧ m ≤ 6
  · obtain ⟨n, rfl⟩ : ∃ n : Nat, m = n := ⟨m.toNat, by omega⟩
    have e : rboV n = .tuple #[.string (rbS n), .int .i64 0] := by unfold rboV; rw [if_pos h, Int.toNat_natCast]
    rw [e]
    have hR := Lib.hid (fun w => rainbow_any n (by omega) (by omega) w)
    have hT := Lib.hid (fun g w => atxI_any (rbL n n) (2 * n) (rbL_len n n) (by omega) g w)
    obtain ⟨h1, h6⟩ := h
    clear e
    go_enter Try.func56, Try.ntmps56
    go_wp2_with (first
      | (go_at_call 66; ((with_reducible refine (areI_t n 6 _ h1 h6).mono ?_); rintro e w0 ⟨rfl, rfl⟩))
      | (go_at_call 71; ((with_reducible refine (hR.out _).mono ?_); rintro e w1 ⟨g, hg, rfl, hO1, hB1⟩))
      | (go_at_call 101; ((with_reducible refine (hT.out g _ hO1).mono ?_); rintro e w2 ⟨rfl, hB2⟩)))
    go_ret2
    exact ⟨rfl, hB1.trans (hB2.mono hB1.size)⟩
  · have e : rboV m = .tuple #[.string ⟨#[]⟩, .int .i64 2] := by unfold rboV; rw [if_neg h]
    rw [e]
    have h' := Lib.hid (show m < 1 ∨ 6 < m by omega)
    clear e h
    go_enter Try.func56, Try.ntmps56
    go_wp2_with (first
      | (go_at_call 66; ((with_reducible refine (areI_f m 6 _ h'.out).mono ?_); rintro e w0 ⟨rfl, rfl⟩)))
    go_ret2
    exact ⟨rfl, Below.refl _ _⟩
theorem rboS_any (m : Int) (w : World) : Calls Try.prog 57 #[.int .i64 m] w fun e w' => e = .returned (rboV m) ∧ Below w.heap.size w w' := by
  by_cases h : 1 ≤ m ∧ m ≤ 6
  · obtain ⟨n, rfl⟩ : ∃ n : Nat, m = n := ⟨m.toNat, by omega⟩
    have e : rboV n = .tuple #[.string (rbS n), .int .i64 0] := by unfold rboV; rw [if_pos h, Int.toNat_natCast]
    rw [e]
    have hR := Lib.hid (fun w => rbS_any n (by omega) (by omega) w)
    obtain ⟨h1, h6⟩ := h
    clear e
    go_enter Try.func57, Try.ntmps57
    go_wp2_with (first
      | (go_at_call 64; ((with_reducible refine (inS_t n 1 6 _ h1 h6).mono ?_); rintro e w0 ⟨rfl, rfl⟩))
      | (go_at_call 70; ((with_reducible refine (hR.out _).mono ?_); rintro e w1 ⟨rfl, hB1⟩)))
    go_ret2
    exact ⟨rfl, hB1⟩
  · have e : rboV m = .tuple #[.string ⟨#[]⟩, .int .i64 2] := by unfold rboV; rw [if_neg h]
    rw [e]
    have h' := Lib.hid (show m < 1 ∨ 6 < m by omega)
    clear e h
    go_enter Try.func57, Try.ntmps57
    go_wp2_with (first
      | (go_at_call 64; ((with_reducible refine (inS_f m 1 6 _ h'.out).mono ?_); rintro e w0 ⟨rfl, rfl⟩)))
    go_ret2
    exact ⟨rfl, Below.refl _ _⟩
end Go.Proofs.Ythofkmndgedkgaa
