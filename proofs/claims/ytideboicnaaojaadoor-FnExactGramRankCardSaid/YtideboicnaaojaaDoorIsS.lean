/- The contract of the model's test of diagrams. -/
import Derived.Test.YtideboicnaaojaaDoorSpecC
import Derived.Test.YtideboicnaaojaaDoorText
import Derived.Deep.QuietTactic
import Derived.BigQuiet
namespace Go.Proofs.YtideboicnaaojaaDoor
open Go.RowKit
def mate (ms : List Int) (i : Int) : Int := ms.getD i.toNat 0
def lo (n : Int) (ms : List Int) (i : Int) : Int := min (pl n i) (pl n (mate ms i))
def hi (n : Int) (ms : List Int) (i : Int) : Int := max (pl n i) (pl n (mate ms i))
def OkAt (n : Int) (ms : List Int) (i : Int) : Prop := if 2 * n ≤ i then mate ms i = 0 else mate ms i < 2 * n ∧ mate ms i ≠ i ∧ mate ms (mate ms i) = i
def Cross (n : Int) (ms : List Int) (i k : Int) : Prop := lo n ms i < lo n ms k ∧ lo n ms k < hi n ms i ∧ hi n ms i < hi n ms k
def IsS (n : Int) (ms : List Int) : Prop := (1 ≤ n ∧ n ≤ 8) ∧ (∀ i : Nat, i < 16 → OkAt n ms i) ∧ ∀ i k : Nat, i < 2 * n → k < 2 * n → ¬ Cross n ms i k
theorem ret_two {a b c d : Int} (h : a = c) (h' : b = d) : Ending.returned (.tuple #[.int .i64 a, .int .i64 b]) = .returned (.tuple #[.int .i64 c, .int .i64 d]) := by rw [h, h']
instance (n : Int) (ms : List Int) (i : Int) : Decidable (OkAt n ms i) := by unfold OkAt; exact inferInstance
instance (n : Int) (ms : List Int) (i k : Int) : Decidable (Cross n ms i k) := by unfold Cross; exact inferInstance
def IsPost (n : Int) (ms : List Int) (w : World) (e : Ending) (w' : World) : Prop := ∃ b : Bool, e = .returned (.bool b) ∧ (b = true ↔ IsS n ms) ∧ Below w.heap.size w w'
theorem IsPost.no {n : Int} {ms : List Int} {w w' : World} (h : ¬ IsS n ms) (hb : Below w.heap.size w w') : IsPost n ms w (.returned (.bool false)) w' := ⟨false, rfl, by simp [h], hb⟩
theorem IsPost.yes {n : Int} {ms : List Int} {w w' : World} (h : IsS n ms) (hb : Below w.heap.size w w') : IsPost n ms w (.returned (.bool true)) w' := ⟨true, rfl, by simp [h], hb⟩
theorem not_ok {n : Int} {ms : List Int} {i : Nat} (hi : i < 16) (h : ¬ OkAt n ms i) : ¬ IsS n ms := fun hs => h (hs.2.1 i hi)
theorem mate_nat (ms : List Int) (i : Nat) : mate ms i = ms.getD i 0 := by unfold mate; rw [Int.toNat_natCast]
end Go.Proofs.YtideboicnaaojaaDoor
