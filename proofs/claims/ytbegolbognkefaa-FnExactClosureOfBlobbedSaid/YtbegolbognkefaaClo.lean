/- Contracts of ClosureLoops, the program's and the model's, and the law. -/
import Derived.Test.YtbegolbognkefaaDiaB
import Derived.Test.YtbegolbognkefaaLawD
import Derived.Deep.LoopGhost
namespace Go.Proofs.Ytbegolbognkefaa
open Go.RowKit
def bcells (mb : List Bool) : Array Value := (mb.map Value.bool).toArray
def falses : List Bool := List.replicate 16 false
theorem bcells_get (mb : List Bool) (i : Nat) (h : i < mb.length) : (bcells mb)[i]? = some (.bool (mb.getD i true)) := by simp [bcells, h]
theorem bcells_set (mb : List Bool) (i : Nat) (x : Bool) : (bcells mb).setIfInBounds i (.bool x) = bcells (mb.set i x) := by simp [bcells, List.map_set]
/-- Along a loop of the closure, from a point on: what has been met. -/
def clW (n : Int) (ms : List Int) : Nat → Int → List Bool → List Bool
  | 0, _, mb => mb
  | f + 1, p, mb => if mb.getD p.toNat true then mb else clW n ms f ((mate ms p + n) % (2 * n)) ((mb.set p.toNat true).set (mate ms p).toNat true)
/-- What has been met, and how many loops, behind k points. -/
def cloL (n : Int) (ms : List Int) : Nat → List Bool × Int
  | 0 => (falses, 0)
  | k + 1 => if (cloL n ms k).1.getD k true then cloL n ms k else (clW n ms 16 k (cloL n ms k).1, (cloL n ms k).2 + 1)
theorem clW_len (n : Int) (ms : List Int) (f : Nat) (p : Int) (mb : List Bool) : (clW n ms f p mb).length = mb.length := by
  induction f generalizing p mb with
  | zero => rfl
  | succ f ih => unfold clW; split <;> simp [ih]
theorem cloL_len (n : Int) (ms : List Int) (k : Nat) : (cloL n ms k).1.length = 16 := by
  induction k with
  | zero => rfl
  | succ k ih => unfold cloL; split <;> simp [clW_len, ih]
theorem cloL_bd (n : Int) (ms : List Int) (k : Nat) : 0 ≤ (cloL n ms k).2 ∧ (cloL n ms k).2 ≤ k := by
  induction k with
  | zero => simp [cloL]
  | succ k ih => unfold cloL; split <;> simp <;> omega
theorem clW_met (n : Int) (ms : List Int) (f : Nat) (p : Int) (mb : List Bool) (h : mb.getD p.toNat true = true) : clW n ms f p mb = mb := by
  cases f with
  | zero => rfl
  | succ f => unfold clW; rw [if_pos h]
theorem clW_step (n : Int) (ms : List Int) (f : Nat) (p : Int) (mb : List Bool) (h : mb.getD p.toNat true = false) : clW n ms (f + 1) p mb = clW n ms f ((mate ms p + n) % (2 * n)) ((mb.set p.toNat true).set (mate ms p).toNat true) := by
  rw [clW, if_neg (by rw [h]; simp)]
theorem cnt_le (mb : List Bool) (i : Nat) : (mb.set i true).count false ≤ mb.count false := by
  induction mb generalizing i with
  | nil => simp
  | cons b mb ih =>
    cases i with
    | zero => cases b <;> simp
    | succ i => have := ih i; cases b <;> simp_all
theorem cnt_lt (mb : List Bool) (i : Nat) (h : mb.getD i true = false) : (mb.set i true).count false + 1 = mb.count false := by
  induction mb generalizing i with
  | nil => simp at h
  | cons b mb ih =>
    cases i with
    | zero => simp at h; subst h; simp
    | succ i => have := ih i (by simpa using h); cases b <;> simp_all
theorem built100 : Try.prog.built 33 [] = some (bcells falses) := by kernel_rfl
theorem row100 : (Try.prog.info? 33).map (·.size) = some (bcells falses).size := by kernel_rfl
end Go.Proofs.Ytbegolbognkefaa
