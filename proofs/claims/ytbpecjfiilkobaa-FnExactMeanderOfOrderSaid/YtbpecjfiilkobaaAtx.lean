/- The text of arches: the program's. -/
import Derived.Test.YtbpecjfiilkobaaMeN
import Derived.Test.YtbpecjfiilkobaaSl
import Derived.Test.YtbpecjfiilkobaaBys
import Derived.Test.YtbpecjfiilkobaaMi
namespace Go.Proofs.Ytbpecjfiilkobaa
open Go.RowKit
set_option linter.unusedVariables false
set_option linter.unusedSimpArgs false
def strT (xs : List Int) (n : Nat) : ByteArray := ⟨(txt xs n).toArray⟩
theorem strT_list (xs : List Int) (n : Nat) : (strT xs n).data.toList = txt xs n := by simp [strT]
theorem strT_size (xs : List Int) (n : Nat) : (strT xs n).size = n := by
  rw [← size_list, strT_list, txt_len]
def atL (xs : List Int) (n : Nat) : Nat → List Int
  | 0 => List.replicate n 0
  | k + 1 => (atL xs n k).set k (if (k : Int) < xs.getD k 0 then 40 else 41)
theorem atL_len (xs : List Int) (n k : Nat) : (atL xs n k).length = n := by
  induction k with
  | zero => simp [atL]
  | succ k ih => rw [atL, List.length_set, ih]
theorem atL_eq (xs : List Int) (n k : Nat) (h : k ≤ n) : atL xs n k = MI (txt xs k) ++ List.replicate (n - k) 0 := by
  induction k with
  | zero => simp [atL, txt, MI]
  | succ k ih =>
    rw [atL, ih (by omega), txt, MI_app, show n - k = (n - (k + 1)) + 1 by omega, List.replicate_succ]
    have l1 : (MI (txt xs k)).length = k := by rw [MI_len, txt_len]
    rw [List.set_append_right _ _ (by omega), l1, Nat.sub_self, List.set_cons_zero, List.append_assoc]
    congr 1
    split <;> rfl
theorem atL_end (xs : List Int) (n : Nat) : strOfNums (atL xs n n) = strT xs n := by
  rw [atL_eq _ _ _ (Nat.le_refl _), Nat.sub_self, List.replicate_zero, List.append_nil, MI_str]; rfl
theorem made8 (n : Nat) : madeCells #[Value.int .u8 0] n = mcells (List.replicate n 0) := by
  apply Array.toList_inj.1
  unfold madeCells mcells
  simp only [Array.toList_map, Array.toList_range, List.map_replicate]
  apply List.ext_getElem?
  intro i
  rw [List.getElem?_map, List.getElem?_replicate]
  by_cases h : i < n
  · rw [List.getElem?_range h, if_pos h]
    simp [Nat.mod_one]
  · rw [if_neg h, List.getElem?_eq_none (by simpa using h)]; rfl
theorem makeU (n : Nat) (hn : n ≤ 1048576) : ∀ w : World, (Instr.makeSlice 36 (.int .i64 n) (.int .i64 n)).run Try.prog w = .ok (.slice (some ⟨w.heap.size, 0, none⟩) n n) (w.alloc (.cells (mcells (List.replicate n 0)) 5)) := by
  intro w
  obtain ⟨i0, hi0, hz0, hz1, hz2⟩ := info_parts info8
  have := run_make w 36 5 i0 (.int .u8 0) Try.underlying36 hi0 hz0 .i64 .i64 (n : Int) (n : Int) (by omega) (by omega) (by rw [hz2]; omega) (by omega)
  rw [this, hz1]
  simp only [Int.toNat_natCast, Nat.mul_one]
  rw [← made8]
  rfl
set_option maxRecDepth 100000 in
set_option maxHeartbeats 1000000 in
theorem atxI_any (xs : List Int) (n : Nat) (hn : xs.length = n) (h12 : n ≤ 12) (g : Nat) (w : World) (hO : Own w g (icells xs) 2) :
    Calls Try.prog 13 #[.slice (some ⟨g, 0, none⟩) n n] w fun e w' => e = .returned (.string (strT xs n)) ∧ Below w.heap.size w w' := by
  have hL := Lib.hid hn
  have hmk := makeU n (by omega)
  have hg := hO.lt
  have HO := Lib.hid hO
  clear hn hO
  go_enter Try.func13, Try.ntmps13
  go_wp2
  clear hmk
  go_loopw [11] (fun i wr => ∃ k : Nat, k ≤ n ∧ i = .int .i64 k ∧ Own wr w.heap.size (mcells (atL xs n k)) 5 ∧ Below w.heap.size w wr) (fun i _ => ((n : Int) - intOf i).toNat)
  case atStart => exact ⟨0, by omega, rfl, Own.new _ _ _, (Below.refl _ _).alloc (Nat.le_refl _) _⟩
  case round =>
    obtain ⟨k, hk, rfl, hT, hB⟩ := hrel
    have hll := atL_len xs n k
    by_cases hlt : k < n
    · have hltI : (k : Int) < n := by omega
      have c1 := (HO.out.below hB hg).cell k
      rw [icells_get _ _ (by rw [hL.out]; exact hlt)] at c1
      have hst : atL xs n (k + 1) = (atL xs n k).set k (if (k : Int) < xs.getD k 0 then 40 else 41) := rfl
      obtain ⟨x, hx⟩ : ∃ x, xs.getD k 0 = x := ⟨_, rfl⟩
      rw [hx] at c1 hst
      have c2 : wr.cell? ⟨w.heap.size, k, none⟩ = some (.int .u8 ((atL xs n k).getD k 0)) := by rw [hT.cell, mcells_get _ _ (by omega)]
      have c3 : (wr.setCell ⟨w.heap.size, k, none⟩ (.int .u8 41)).cell? ⟨w.heap.size, k, none⟩ = some (.int .u8 41) := by rw [(hT.set _ _).cell, mcells_set, mcells_get _ _ (by simp; omega)]; simp [hll, hlt]
      have f2 := hT.free k
      have hST := Lib.hid hst
      have hLL := Lib.hid hll
      clear hx hll hst
      by_cases hc : (k : Int) < x
      · have hT2 : Own ((wr.setCell ⟨w.heap.size, k, none⟩ (.int .u8 41)).setCell ⟨w.heap.size, k, none⟩ (.int .u8 40)) w.heap.size (mcells (atL xs n (k + 1))) 5 := by
          have := (hT.set k (.int .u8 41)).set k (.int .u8 40)
          rw [mcells_set, mcells_set, List.set_set] at this
          rw [hST.out, if_pos hc]; exact this
        have hB2 : Below w.heap.size w ((wr.setCell ⟨w.heap.size, k, none⟩ (.int .u8 41)).setCell ⟨w.heap.size, k, none⟩ (.int .u8 40)) := (hB.setCell (by simp) _).setCell (by simp) _
        have K1 := Lib.hid hT2
        have K3 := Lib.hid hB2
        clear hT2 hB2 hT
        go_wp2
        go_roundw
        case rel => exact ⟨k + 1, by omega, by go_num, K1.out, K3.out⟩
        case measure => simp [intOf]; omega
      · have hT2 : Own (wr.setCell ⟨w.heap.size, k, none⟩ (.int .u8 41)) w.heap.size (mcells (atL xs n (k + 1))) 5 := by
          have := hT.set k (.int .u8 41)
          rw [mcells_set] at this
          rw [hST.out, if_neg hc]; exact this
        have hB2 : Below w.heap.size w (wr.setCell ⟨w.heap.size, k, none⟩ (.int .u8 41)) := hB.setCell (by simp) _
        have K1 := Lib.hid hT2
        have K3 := Lib.hid hB2
        clear hT2 hB2 hT
        go_wp2
        go_roundw
        case rel => exact ⟨k + 1, by omega, by go_num, K1.out, K3.out⟩
        case measure => simp [intOf]; omega
    · have hk2 : k = n := by omega
      subst hk2
      have hcv := run_convert_bytes_arg wr 36 5 Try.underlying36 Try.underlying5 w.heap.size 0 k k (atL xs k k) hll
        (fun i hi => by rw [Nat.zero_add, hT.cell, mcells_get _ _ (by omega)]) 9 Try.underlying9
      rw [atL_end] at hcv
      clear hll
      go_wp2
      go_ret
      exact ⟨rfl, hB⟩
end Go.Proofs.Ytbpecjfiilkobaa
