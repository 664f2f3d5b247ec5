/- The plain function that writes a diagram as a text, and the contract of the program's own. -/
import Derived.Test.YtideboicnaaojaaDoorImplC
namespace Go.Proofs.YtideboicnaaojaaDoor
open Go.RowKit
/-- The byte at a place. -/
def chAt (n : Int) (ms : List Int) (p : Nat) : Int := if (p : Int) < pl n (ms.getD (pl n p).toNat 0) then 40 else 41
/-- The bytes of the first k places, and zeros behind them. -/
def letL (n : Int) (ms : List Int) (N : Nat) : Nat → List Int
  | 0 => List.replicate (2 * N) 0
  | k + 1 => (letL n ms N k).set k (chAt n ms k)
def textS (n : Int) (ms : List Int) : ByteArray := strOfNums (letL n ms n.toNat (2 * n.toNat))
theorem letL_len (n : Int) (ms : List Int) (N k : Nat) : (letL n ms N k).length = 2 * N := by
  induction k with
  | zero => simp [letL]
  | succ k ih => simp [letL, ih]
/-- All are bytes. -/
def Bytes (ms : List Int) : Prop := ∀ x ∈ ms, 0 ≤ x ∧ x ≤ 255
theorem Bytes.get {ms : List Int} (h : Bytes ms) (i : Nat) : 0 ≤ ms.getD i 0 ∧ ms.getD i 0 ≤ 255 := by
  rw [List.getD_eq_getElem?_getD]
  by_cases hi : i < ms.length
  · rw [List.getElem?_eq_getElem hi]; exact h _ (List.getElem_mem hi)
  · rw [List.getElem?_eq_none (by omega)]; simp
theorem makeN (N : Nat) (h1 : 1 ≤ N) (h8 : N ≤ 8) : ∀ w : World, (Instr.makeSlice 52 (.int .i64 (2 * (N : Int))) (.int .i64 (2 * (N : Int)))).run Tryd.prog w = .ok (.slice (some ⟨w.heap.size, 0, none⟩) (2 * N) (2 * N)) (w.alloc (.cells (mcells (List.replicate (2 * N) 0)) 5)) := by
  have h : N = 1 ∨ N = 2 ∨ N = 3 ∨ N = 4 ∨ N = 5 ∨ N = 6 ∨ N = 7 ∨ N = 8 := by omega
  rcases h with rfl | rfl | rfl | rfl | rfl | rfl | rfl | rfl <;> (intro w; kernel_rfl)
end Go.Proofs.YtideboicnaaojaaDoor
