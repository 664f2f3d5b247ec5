/- The program's curves. -/
import Derived.Test.YtbpecjfiilkobaaIsy
import Derived.Test.YtbpecjfiilkobaaIntsAt
import Derived.Test.YtbpecjfiilkobaaJmp
namespace Go.Proofs.Ytbpecjfiilkobaa
open Go.RowKit
set_option linter.unusedVariables false
set_option linter.unusedSimpArgs false
def nlN (l : List Nat) : List Int := l.map (fun y : Nat => (y : Int))
theorem nlN_app (a b : List Nat) : nlN (a ++ b) = nlN a ++ nlN b := by simp [nlN]
theorem nlN_len (l : List Nat) : (nlN l).length = l.length := by simp [nlN]
theorem nlN_get (l : List Nat) (k : Nat) (h : k < l.length) : (nlN l).getD k 0 = ((l.getD k 0 : Nat) : Int) := by simp [nlN, h]
theorem make0I (n : Nat) (hn : n ≤ 1048576) : ∀ w : World, (Instr.makeSlice 22 (.int .i64 0) (.int .i64 n)).run Try.prog w = .ok (.slice (some ⟨w.heap.size, 0, none⟩) 0 n) (w.alloc (.cells (icells (List.replicate n 0)) 2)) := by
  intro w
  obtain ⟨i0, hi0, hz0, hz1, hz2⟩ := info_parts info64
  have := run_make w 22 2 i0 (.int .i64 0) Try.underlying22 hi0 hz0 .i64 .i64 (0 : Int) (n : Int) (by omega) (by omega) (by rw [hz2]; omega) (by omega)
  rw [this, hz1]
  simp only [Int.toNat_natCast, Nat.mul_one]
  rw [← made64]
  rfl
/-- The arches of a system lie in a block. -/
def Arc (w : World) (b L : Nat) (o : List Int) : Prop := Own w b (icells (o.take L)) 2
theorem Arc.cell {w : World} {b L : Nat} {o : List Int} (h : Arc w b L o) (S : Sys L o) (j : Nat) (hj : j < L) : w.cell? ⟨b, j, none⟩ = some (.int .i64 ((mf o j : Nat) : Int)) := by
  rw [Own.cell h, icells_get _ _ (by rw [List.length_take, S.len]; have := S.top; omega), gtake _ _ _ hj, S.val j hj]
end Go.Proofs.Ytbpecjfiilkobaa
