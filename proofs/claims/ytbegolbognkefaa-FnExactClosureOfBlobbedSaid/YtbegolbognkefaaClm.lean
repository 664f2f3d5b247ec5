/- The closure of a diagram with blobs, plainly; and the program's methods of kinds of lines. -/
import Derived.Test.YtbegolbognkefaaBtx
import Derived.Test.YtbegolbognkefaaClo
import Derived.Test.YtbegolbognkefaaOnS
import Derived.Deep.CutRange
namespace Go.Proofs.Ytbegolbognkefaa
open Go.RowKit Go.Lib
set_option linter.unusedVariables false
set_option linter.unusedSimpArgs false
/-- Along a loop of the closure, from a point on: what has been met, and whether there was a blob. -/
def clX (n : Int) (ms : List Int) (bs : List Bool) : Nat → Int → List Bool → Bool → List Bool × Bool
  | 0, _, mb, b => (mb, b)
  | f + 1, p, mb, b => if mb.getD p.toNat true then (mb, b) else clX n ms bs f ((mate ms p + n) % (2 * n)) ((mb.set p.toNat true).set (mate ms p).toNat true) (b || bs.getD p.toNat false)
/-- What has been met, and how many loops of both kinds, behind k points. -/
def clQ (n : Int) (ms : List Int) (bs : List Bool) : Nat → List Bool × Int × Int
  | 0 => (zbs, 0, 0)
  | k + 1 => if (clQ n ms bs k).1.getD k true then clQ n ms bs k else
    ((clX n ms bs 16 k (clQ n ms bs k).1 false).1, (clQ n ms bs k).2.1 + (if (clX n ms bs 16 k (clQ n ms bs k).1 false).2 then 0 else 1), (clQ n ms bs k).2.2 + (if (clX n ms bs 16 k (clQ n ms bs k).1 false).2 then 1 else 0))
theorem clX_len (n : Int) (ms : List Int) (bs : List Bool) (f : Nat) (p : Int) (mb : List Bool) (b : Bool) : (clX n ms bs f p mb b).1.length = mb.length := by
  induction f generalizing p mb b with
  | zero => rfl
  | succ f ih => unfold clX; split <;> simp [ih]
theorem clQ_len (n : Int) (ms : List Int) (bs : List Bool) (k : Nat) : (clQ n ms bs k).1.length = 16 := by
  induction k with
  | zero => rfl
  | succ k ih => unfold clQ; split <;> simp [clX_len, ih]
theorem clQ_bd (n : Int) (ms : List Int) (bs : List Bool) (k : Nat) : 0 ≤ (clQ n ms bs k).2.1 ∧ (clQ n ms bs k).2.1 ≤ k ∧ 0 ≤ (clQ n ms bs k).2.2 ∧ (clQ n ms bs k).2.2 ≤ k := by
  induction k with
  | zero => simp [clQ]
  | succ k ih =>
    unfold clQ
    split
    · omega
    · simp only
      split <;> omega
theorem clX_met (n : Int) (ms : List Int) (bs : List Bool) (f : Nat) (p : Int) (mb : List Bool) (b : Bool) (h : mb.getD p.toNat true = true) : clX n ms bs f p mb b = (mb, b) := by
  cases f with
  | zero => rfl
  | succ f => unfold clX; rw [if_pos h]
theorem clX_step (n : Int) (ms : List Int) (bs : List Bool) (f : Nat) (p : Int) (mb : List Bool) (b : Bool) (h : mb.getD p.toNat true = false) : clX n ms bs (f + 1) p mb b = clX n ms bs f ((mate ms p + n) % (2 * n)) ((mb.set p.toNat true).set (mate ms p).toNat true) (b || bs.getD p.toNat false) := by
  rw [clX, if_neg (by rw [h]; simp)]
theorem getD_tf (l : List Bool) (i : Nat) (h : i < l.length) : l.getD i false = l.getD i true := by
  rw [List.getD_eq_getElem?_getD, List.getD_eq_getElem?_getD, List.getElem?_eq_getElem h]; rfl
theorem mJ1 : ∀ w : World, Sem.run Try.prog (method 237 89 (.agg #[]) "loop.example/g01251/impl.join") w = .ok (105, .agg #[]) w := by intro w; kernel_rfl
theorem mJ0 : ∀ w : World, Sem.run Try.prog (method 237 91 (.agg #[]) "loop.example/g01251/impl.join") w = .ok (108, .agg #[]) w := by intro w; kernel_rfl
theorem mL1 : ∀ w : World, Sem.run Try.prog (method 237 89 (.agg #[]) "loop.example/g01251/impl.loop") w = .ok (106, .agg #[]) w := by intro w; kernel_rfl
theorem mL0 : ∀ w : World, Sem.run Try.prog (method 237 91 (.agg #[]) "loop.example/g01251/impl.loop") w = .ok (109, .agg #[]) w := by intro w; kernel_rfl
theorem mH1 : ∀ w : World, Sem.run Try.prog (method 237 89 (.agg #[]) "loop.example/g01251/impl.hasBlob") w = .ok (104, .agg #[]) w := by intro w; kernel_rfl
theorem mH0 : ∀ w : World, Sem.run Try.prog (method 237 91 (.agg #[]) "loop.example/g01251/impl.hasBlob") w = .ok (107, .agg #[]) w := by intro w; kernel_rfl
theorem nA1 : ∀ w : World, Sem.run Try.prog (nilAhead 237 89 (.agg #[]) "loop.example/g01251/impl.join") w = .ok (some false) w := by intro w; kernel_rfl
theorem nA0 : ∀ w : World, Sem.run Try.prog (nilAhead 237 91 (.agg #[]) "loop.example/g01251/impl.join") w = .ok (some false) w := by intro w; kernel_rfl
set_option maxRecDepth 100000 in
theorem join1_any (x : Value) (w : World) :
    Calls Try.prog 105 #[.agg #[], x] w fun e w' => e = .returned (lk true) ∧ Below w.heap.size w w' := by
  go_enter Try.func105, Try.ntmps105
  go_wp2_with (first
    | (refine wpList_build_of rfl 89 #[] rfl #[] ?_ ?_; (exact builtK1)))
  go_ret
  exact ⟨rfl, (Below.refl _ _).alloc (Nat.le_refl _) _⟩
set_option maxRecDepth 100000 in
theorem join0_any (x : Value) (w : World) :
    Calls Try.prog 108 #[.agg #[], x] w fun e w' => e = .returned x ∧ Below w.heap.size w w' := by
  go_enter Try.func108, Try.ntmps108
  go_wp2
  go_ret
  exact ⟨rfl, (Below.refl _ _).alloc (Nat.le_refl _) _⟩
set_option maxRecDepth 100000 in
theorem loop1_any (w : World) :
    Calls Try.prog 106 #[.agg #[]] w fun e w' => e = .returned (.int .i64 1) ∧ Below w.heap.size w w' := by
  go_enter Try.func106, Try.ntmps106
  go_wp2
  go_ret
  exact ⟨rfl, (Below.refl _ _).alloc (Nat.le_refl _) _⟩
set_option maxRecDepth 100000 in
theorem loop0_any (w : World) :
    Calls Try.prog 109 #[.agg #[]] w fun e w' => e = .returned (.int .i64 0) ∧ Below w.heap.size w w' := by
  go_enter Try.func109, Try.ntmps109
  go_wp2
  go_ret
  exact ⟨rfl, (Below.refl _ _).alloc (Nat.le_refl _) _⟩
set_option maxRecDepth 100000 in
theorem has1_any (w : World) :
    Calls Try.prog 104 #[.agg #[]] w fun e w' => e = .returned (.bool true) ∧ Below w.heap.size w w' := by
  go_enter Try.func104, Try.ntmps104
  go_wp2
  go_ret
  exact ⟨rfl, (Below.refl _ _).alloc (Nat.le_refl _) _⟩
set_option maxRecDepth 100000 in
theorem has0_any (w : World) :
    Calls Try.prog 107 #[.agg #[]] w fun e w' => e = .returned (.bool false) ∧ Below w.heap.size w w' := by
  go_enter Try.func107, Try.ntmps107
  go_wp2
  go_ret
  exact ⟨rfl, (Below.refl _ _).alloc (Nat.le_refl _) _⟩
end Go.Proofs.Ytbegolbognkefaa
