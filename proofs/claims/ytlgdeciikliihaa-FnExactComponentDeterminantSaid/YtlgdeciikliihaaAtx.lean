/- The text of arches: the program's. -/
import Derived.Test.YtlgdeciikliihaaMeN
import Derived.Test.YtlgdeciikliihaaSl
import Derived.Test.YtlgdeciikliihaaBys
import Derived.Test.YtlgdeciikliihaaMi
namespace Go.Proofs.Ytlgdeciikliihaa
open Go.RowKit
set_option linter.unusedVariables false
set_option linter.unusedSimpArgs false
def strT (xs : List Int) (n : Nat) : ByteArray := ⟨(txt xs n).toArray⟩
theorem strT_list (xs : List Int) (n : Nat) : (strT xs n).data.toList = txt xs n := by simp [strT]
theorem strT_size (xs : List Int) (n : Nat) : (strT xs n).size = n := by
  rw [← size_list, strT_list, txt_len]
def atL (xs : List Int) (n : Nat) : Nat → List Int
  | 0 => List.replicate n 0
  | k + 1 => (atL xs n k).set k (if (k : Int) < xs.getD k 0 then 40 else 41)
theorem atL_len (xs : List Int) (n k : Nat) : (atL xs n k).length = n := by
  induction k with
  | zero => simp [atL]
  | succ k ih => rw [atL, List.length_set, ih]
theorem atL_eq (xs : List Int) (n k : Nat) (h : k ≤ n) : atL xs n k = MI (txt xs k) ++ List.replicate (n - k) 0 := by
  induction k with
  | zero => simp [atL, txt, MI]
  | succ k ih =>
    rw [atL, ih (by omega), txt, MI_app, show n - k = (n - (k + 1)) + 1 by omega, List.replicate_succ]
    have l1 : (MI (txt xs k)).length = k := by rw [MI_len, txt_len]
    rw [List.set_append_right _ _ (by omega), l1, Nat.sub_self, List.set_cons_zero, List.append_assoc]
    congr 1
    split <;> rfl
theorem atL_end (xs : List Int) (n : Nat) : strOfNums (atL xs n n) = strT xs n := by
  rw [atL_eq _ _ _ (Nat.le_refl _), Nat.sub_self, List.replicate_zero, List.append_nil, MI_str]; rfl
theorem made8 (n : Nat) : madeCells #[Value.int .u8 0] n = mcells (List.replicate n 0) := by
  apply Array.toList_inj.1
  unfold madeCells mcells
  simp only [Array.toList_map, Array.toList_range, List.map_replicate]
  apply List.ext_getElem?
  intro i
  rw [List.getElem?_map, List.getElem?_replicate]
  by_cases h : i < n
  · rw [List.getElem?_range h, if_pos h]
    simp [Nat.mod_one]
  · rw [if_neg h, List.getElem?_eq_none (by simpa using h)]; rfl
theorem makeU (n : Nat) (hn : n ≤ 1048576) : ∀ w : World, (Instr.makeSlice 86 (.int .i64 n) (.int .i64 n)).run Try.prog w = .ok (.slice (some ⟨w.heap.size, 0, none⟩) n n) (w.alloc (.cells (mcells (List.replicate n 0)) 5)) := by
  intro w
  obtain ⟨i0, hi0, hz0, hz1, hz2⟩ := info_parts info8
  have := run_make w 86 5 i0 (.int .u8 0) Try.underlying86 hi0 hz0 .i64 .i64 (n : Int) (n : Int) (by omega) (by omega) (by rw [hz2]; omega) (by omega)
  rw [this, hz1]
  simp only [Int.toNat_natCast, Nat.mul_one]
  rw [← made8]
  rfl
end Go.Proofs.Ytlgdeciikliihaa
