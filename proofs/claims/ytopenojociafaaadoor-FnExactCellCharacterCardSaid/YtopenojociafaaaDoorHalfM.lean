/- Plain mathematics: the half of a diagram on the side whose first point is f, as bytes. -/
import Derived.Test.YtopenojociafaaaDoorTextM
namespace Go.Proofs.YtopenojociafaaaDoor
open Go.RowKit
/-- The byte of the point k behind f, of which m is the mate. -/
def hch (n f m : Int) (k : Nat) : Int := if m - f < 0 ∨ n ≤ m - f then 124 else if (k : Int) < m - f then 40 else 41
/-- The first k bytes. -/
def hfL (n f : Int) (ms : List Int) : Nat → List Int
  | 0 => []
  | k + 1 => hfL n f ms k ++ [hch n f (ms.getD (f.toNat + k) 0) k]
theorem hfL_len (n f : Int) (ms : List Int) (k : Nat) : (hfL n f ms k).length = k := by
  induction k with
  | zero => rfl
  | succ k ih => simp [hfL, ih]
def halfB (n f : Int) (ms : List Int) : ByteArray := strOfNums (hfL n f ms n.toNat)
/-- The first k bytes, and zeros behind them. -/
def hfZ (n f : Int) (ms : List Int) (N k : Nat) : List Int := hfL n f ms k ++ List.replicate (N - k) 0
theorem hfZ_len (n f : Int) (ms : List Int) (N k : Nat) (h : k ≤ N) : (hfZ n f ms N k).length = N := by
  simp [hfZ, hfL_len]; omega
theorem hfZ_set (n f : Int) (ms : List Int) (N k : Nat) (h : k < N) : (hfZ n f ms N k).set k (hch n f (ms.getD (f.toNat + k) 0) k) = hfZ n f ms N (k + 1) := by
  have e : N - k = (N - (k + 1)) + 1 := by omega
  have hk := hfL_len n f ms k
  unfold hfZ
  rw [e, List.replicate_succ, List.set_append_right _ _ (by omega), hk, Nat.sub_self, List.set_cons_zero, hfL, List.append_assoc]
  rfl
theorem hfZ_end (n f : Int) (ms : List Int) (N : Nat) : hfZ n f ms N N = hfL n f ms N := by simp [hfZ]
theorem hfZ_zero (n f : Int) (ms : List Int) (N : Nat) : hfZ n f ms N 0 = List.replicate N 0 := by simp [hfZ, hfL]
end Go.Proofs.YtopenojociafaaaDoor
