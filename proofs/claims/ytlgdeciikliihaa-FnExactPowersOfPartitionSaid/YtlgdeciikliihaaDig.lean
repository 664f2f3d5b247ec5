/- Digits: texts of small numbers, one behind the other. -/
import Derived.Test.YtlgdeciikliihaaText
namespace Go.Proofs.Ytlgdeciikliihaa
open Go.RowKit
set_option linter.unusedVariables false
theorem str_append (a b : List Int) : strOfNums a ++ strOfNums b = strOfNums (a ++ b) := by
  unfold strOfNums
  rw [ByteArray.mk_append_mk]
  simp
def digs (xs : List Int) : List Int := xs.map (fun x => 48 + x)
theorem digs_len (xs : List Int) : (digs xs).length = xs.length := by simp [digs]
theorem digs_take (xs : List Int) (k : Nat) (h : k < xs.length) : digs (xs.take (k + 1)) = digs (xs.take k) ++ [48 + xs.getD k 0] := by
  unfold digs
  rw [List.take_succ_eq_append_getElem h, List.map_append, List.getD_eq_getElem?_getD, List.getElem?_eq_getElem h]; rfl
theorem makeB (n : Nat) (hn : n ≤ 1048576) : ∀ w : World, (Instr.makeSlice 86 (.int .i64 n) (.int .i64 n)).run Try.prog w = .ok (.slice (some ⟨w.heap.size, 0, none⟩) n n) (w.alloc (.cells (mcells (List.replicate n 0)) 5)) := by
  intro w
  have info8' : (Try.prog.info? 5).map (fun i => (i.zero, i.size, i.bytes)) = some (some (.int .u8 0), 1, 1) := by kernel_rfl
  obtain ⟨i0, hi0, hz0, hz1, hz2⟩ := info_parts info8'
  have := run_make w 86 5 i0 (.int .u8 0) Try.underlying86 hi0 hz0 .i64 .i64 (n : Int) (n : Int) (by omega) (by omega) (by rw [hz2]; omega) (by omega)
  rw [this, hz1]
  simp only [Int.toNat_natCast, Nat.mul_one]
  have e : madeCells #[Value.int .u8 0] n = mcells (List.replicate n 0) := by
    apply Array.toList_inj.1
    unfold madeCells mcells
    simp only [Array.toList_map, Array.toList_range, List.map_replicate]
    apply List.ext_getElem?
    intro i
    rw [List.getElem?_map, List.getElem?_replicate]
    by_cases h : i < n
    · rw [List.getElem?_range h, if_pos h]
      simp [Nat.mod_one]
    · rw [if_neg h, List.getElem?_eq_none (by simpa using h)]; rfl
  rw [← e]
  rfl
/-- The first k digits, and zeros behind them. -/
def dgI (xs : List Int) (k : Nat) : List Int := digs (xs.take k) ++ List.replicate (xs.length - k) 0
theorem dgI_len (xs : List Int) (k : Nat) (h : k ≤ xs.length) : (dgI xs k).length = xs.length := by simp [dgI, digs]; omega
theorem dgI_set (xs : List Int) (k : Nat) (h : k < xs.length) : (dgI xs k).set k (48 + xs.getD k 0) = dgI xs (k + 1) := by
  unfold dgI
  rw [digs_take xs k h, List.set_append_right _ _ (by simp [digs]; omega), show xs.length - k = (xs.length - (k + 1)) + 1 by omega, List.replicate_succ]
  have : k - (digs (xs.take k)).length = 0 := by simp [digs]; omega
  rw [this, List.set_cons_zero, List.append_assoc]; rfl
theorem dgI_end (xs : List Int) : dgI xs xs.length = digs xs := by simp [dgI]
end Go.Proofs.Ytlgdeciikliihaa
