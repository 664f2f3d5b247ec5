/- Arches that are joined; rainbows, the program's and the model's; RainbowOf and its law. -/
import Derived.Test.YtbpecjfiilkobaaAtx
import Derived.Test.YtbpecjfiilkobaaAri
import Derived.Test.YtbpecjfiilkobaaSpecA
import Derived.Test.YtbpecjfiilkobaaLawA
namespace Go.Proofs.Ytbpecjfiilkobaa
open Go.RowKit
set_option linter.unusedVariables false
set_option linter.unusedSimpArgs false
set_option maxRecDepth 100000 in
theorem joinA_any (b n : Nat) (ms : List Int) (hms : ms.length = n) (i j : Int) (w : World) (ho : Own w b (icells ms) 2) (hi : 0 ≤ i) (hi2 : i < n) (hj : 0 ≤ j) (hj2 : j < n) :
    Calls Try.prog 11 #[.slice (some ⟨b, 0, none⟩) n n, .int .i64 i, .int .i64 j] w fun e w' => e = .returned (.tuple #[]) ∧ Own w' b (icells (joinL ms i j)) 2 ∧ Only b w w' := by
  have c1 : w.cell? ⟨b, i.toNat, none⟩ = some (.int .i64 (ms.getD i.toNat 0)) := by rw [ho.cell, icells_get _ _ (by omega)]
  have c2 : (w.setCell ⟨b, i.toNat, none⟩ (.int .i64 j)).cell? ⟨b, j.toNat, none⟩ = some (.int .i64 ((ms.set i.toNat j).getD j.toNat 0)) := by rw [(ho.set _ _).cell, icells_set, icells_get _ _ (by simp; omega)]
  have f1 : w.frozen? ⟨b, i.toNat, none⟩ = false := ho.free _
  have f2 : w.frozen? ⟨b, j.toNat, none⟩ = false := ho.free _
  have hh := Lib.hid hms
  clear hms
  go_enter Try.func11, Try.ntmps11
  go_wp2
  go_end0
  refine ⟨rfl, ?_, (Only.set _ _ _ _).trans (Only.set _ _ _ _)⟩
  have := (ho.set i.toNat (.int .i64 j)).set j.toNat (.int .i64 i)
  rwa [icells_set, icells_set] at this
def rbL (m : Nat) : Nat → List Int
  | 0 => List.replicate (2 * m) 0
  | k + 1 => joinL (rbL m k) k (2 * (m : Int) - 1 - k)
theorem rbL_len (m k : Nat) : (rbL m k).length = 2 * m := by
  induction k with
  | zero => simp [rbL]
  | succ k ih => rw [rbL, joinL_len, ih]
def rbS (m : Nat) : ByteArray := strT (rbL m m) (2 * m)
def rmL (m : Nat) : Nat → List Int
  | 0 => []
  | k + 1 => rmL m k ++ [if k < m then 40 else 41]
theorem rmL_len (m k : Nat) : (rmL m k).length = k := by
  induction k with
  | zero => rfl
  | succ k ih => rw [rmL, List.length_append, ih]; rfl
theorem rm_str (m : Nat) (h1 : 1 ≤ m) (h6 : m ≤ 6) : strOfNums (rmL m (2 * m)) = rbS m := by
  have e : rmL m (2 * m) = MI (txt (rbL m m) (2 * m)) := by
    have h : m = 1 ∨ m = 2 ∨ m = 3 ∨ m = 4 ∨ m = 5 ∨ m = 6 := by omega
    rcases h with rfl | rfl | rfl | rfl | rfl | rfl <;> decide +kernel
  rw [e, MI_str]; rfl
/-- What RainbowOf answers. -/
def rboV (m : Int) : Value := if 1 ≤ m ∧ m ≤ 6 then .tuple #[.string (rbS m.toNat), .int .i64 0] else .tuple #[.string ⟨#[]⟩, .int .i64 2]
end Go.Proofs.Ytbpecjfiilkobaa
