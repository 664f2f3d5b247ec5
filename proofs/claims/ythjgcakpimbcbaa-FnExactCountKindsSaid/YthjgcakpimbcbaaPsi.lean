/- The surrounding diagram: the program's. -/
import Derived.Test.YthjgcakpimbcbaaPss
import Derived.Test.YthjgcakpimbcbaaOn
namespace Go.Proofs.Ythjgcakpimbcbaa
open Go.RowKit
set_option linter.unusedVariables false
theorem Own.rdm {w : World} {b : Nat} {xs : List Int} {t : TypeId} (h : Own w b (mcells xs) t) : Rdf (Value.int .u8) w b 0 xs := by
  intro j hj
  rw [Nat.zero_add, h.cell, mcells_get _ _ hj]
theorem planI_cr {ga gp P m : Nat} {a : List Int} (hl : a.length = m) (h8 : m ≤ 8) (r : Bool) (hr : r = true ↔ ¬ Crs a m) (w : World) (hO : Own w ga (mcells a) 5) :
    Calls Try.prog 28 #[.agg (shc ga gp m P)] w fun e w' => e = .returned (.bool r) ∧ Below w.heap.size w w' :=
  (planI_any ga gp P m a w hl h8 hO.lt hO.rdm).mono fun e w' ⟨r2, he, h2, hB⟩ => ⟨by rw [he, show r2 = r by cases r <;> cases r2 <;> simp_all], hB⟩
theorem planS_cr (N : Nat) (ms : List Int) (hms : ms.length = 8) (h1 : 1 ≤ N) (h4 : N ≤ 4) (r : Bool) (hr : r = true ↔ ¬ Crs (arZ N ms N (2 * N)) (2 * N)) (w : World) :
    Calls Try.prog 26 #[.agg (dcells N ms)] w fun e w' => e = .returned (.bool r) ∧ Below w.heap.size w w' :=
  (planS_any N ms hms h1 h4 w).mono fun e w' ⟨r2, he, h2, hB⟩ => ⟨by rw [he, show r2 = r by cases r <;> cases r2 <;> simp_all], hB⟩
end Go.Proofs.Ythjgcakpimbcbaa
