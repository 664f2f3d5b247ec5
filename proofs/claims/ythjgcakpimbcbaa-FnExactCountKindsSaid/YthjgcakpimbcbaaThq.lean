/- The law of ThroughParts. -/
import Derived.Test.YthjgcakpimbcbaaThp
namespace Go.Proofs.Ythjgcakpimbcbaa
open Go.RowKit
set_option linter.unusedVariables false
theorem thC_step (N : Nat) (ms : List Int) (v : Nat) : thC N ms (v + 1) = if 0 < (upL N ms (2 * N)).getD v 0 ∧ 0 < (loL N ms (2 * N)).getD v 0 then thC N ms v + 1 else thC N ms v := rfl
/-- The cells of two numbers. -/
def pcs (x y : Int) : Array Value := #[.int .i64 x, .int .i64 y]
theorem rowSd {c : Array Value} (h : c.size = 2) : (Try.prog.info? 59).map (·.size) = some c.size := by rw [h]; kernel_rfl
set_option maxRecDepth 100000 in
theorem goThru_any (x y : Int) (w : World) :
    Calls Try.prog 44 #[.agg (pcs x y)] w fun e w' => e = .returned (.bool (decide (0 < x ∧ 0 < y))) ∧ Below w.heap.size w w' := by
  have c0 := (Own.new w (pcs x y) 59).cell 0
  have c1 := (Own.new w (pcs x y) 59).cell 1
  rw [show (pcs x y)[0]? = some (.int .i64 x) from rfl] at c0
  rw [show (pcs x y)[1]? = some (.int .i64 y) from rfl] at c1
  go_enter Try.func44, Try.ntmps44
  go_wp2
  · go_ret
    exact ⟨by simp_all, (Below.refl _ _).alloc (Nat.le_refl _) _⟩
  · go_ret
    exact ⟨by simp_all <;> omega, (Below.refl _ _).alloc (Nat.le_refl _) _⟩
theorem sd_range {w : World} {g : Nat} {xs : List Int} {t : TypeId} (h : Own w g (icells xs) t) (i : Nat) (hi : i * 2 + 1 < xs.length) : w.rangeAt g (i * 2) [.int .i64 (xs.getD (i * 2) 0), .int .i64 (xs.getD (i * 2 + 1) 0)] := by
  intro j v hj
  match j, hj with
  | 0, hj => simp at hj; subst hj; rw [Nat.add_zero, h.cell, icells_get _ _ (by omega)]; simp [List.getD_eq_getElem?_getD]
  | 1, hj => simp at hj; subst hj; rw [h.cell, icells_get _ _ (by omega)]; simp [List.getD_eq_getElem?_getD]
  | j + 2, hj => simp at hj
theorem fieldSh1 (p q : Option Addr) (l c m d : Nat) : ∀ w : World, (Instr.field 50 (.agg #[.slice p l c, .slice q m d]) 1).run Try.prog w = .ok (.slice q m d) w := by
  intro w; kernel_rfl
end Go.Proofs.Ythjgcakpimbcbaa
