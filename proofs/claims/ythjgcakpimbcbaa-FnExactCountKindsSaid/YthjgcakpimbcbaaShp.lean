/- The shape of a partition: what the program's kinds depend on. -/
import Derived.Test.YthjgcakpimbcbaaPtx
import Derived.Test.YthjgcakpimbcbaaPii
import Derived.Test.YthjgcakpimbcbaaImplC
import Derived.Test.YthjgcakpimbcbaaPun
namespace Go.Proofs.Ythjgcakpimbcbaa
open Go.RowKit
set_option linter.unusedVariables false
/-- The greatest of the entries up to k. -/
def mxL (xs : List Int) : Nat → Int
  | 0 => xs.getD 0 0
  | k + 1 => if mxL xs k < xs.getD (k + 1) 0 then xs.getD (k + 1) 0 else mxL xs k
theorem mxL_bd (xs : List Int) (h : ∀ k, 0 ≤ xs.getD k 0 ∧ xs.getD k 0 < 8) (k : Nat) : 0 ≤ mxL xs k ∧ mxL xs k < 8 := by
  induction k with
  | zero => exact h 0
  | succ k ih => unfold mxL; split; exact h _; exact ih
theorem mxL_ge (xs : List Int) (k i : Nat) (hi : i ≤ k) : xs.getD i 0 ≤ mxL xs k := by
  induction k with
  | zero => obtain rfl : i = 0 := by omega
            exact Int.le_refl _
  | succ k ih =>
    unfold mxL
    by_cases e : i = k + 1
    · subst e; split <;> omega
    · have := ih (by omega); split <;> omega
set_option maxRecDepth 100000 in
set_option maxHeartbeats 1000000 in
theorem maxB_any (b o c n : Nat) (xs : List Int) (w : World) (hl : xs.length = n + 1) (h8 : n + 1 ≤ 8) (hb : ∀ k, 0 ≤ xs.getD k 0 ∧ xs.getD k 0 < 8) (hR : Rdf (Value.int .u8) w b o xs) :
    Calls Try.prog 36 #[.slice (some ⟨b, o, none⟩) (n + 1) c] w fun e w' => e = .returned (.int .u8 (mxL xs n)) ∧ w = w' := by
  have hL := Lib.hid hl
  have hR' := Lib.hid hR
  have hB := Lib.hid hb
  have c0 := hR 0 (by omega)
  have hB0 := hb 0
  obtain ⟨x0, x8⟩ := hB0
  have hm0 := Lib.hid (show mxL xs 0 = xs.getD 0 0 from rfl)
  rw [Nat.add_zero] at c0
  generalize hx0 : xs.getD 0 0 = z at *
  obtain ⟨m, hm⟩ : ∃ m, n + 1 = m := ⟨_, rfl⟩
  rw [hm] at hl ⊢
  have hM := Lib.hid hm
  have hm1 : ¬ (m : Int) < 1 := by omega
  have hm8 : m ≤ 8 := by omega
  clear hR hl hb hm h8 hx0
  go_enter Try.func36, Try.ntmps36
  go_wp2
  go_loopw [3, 4] (fun v i wr => ∃ k : Nat, k + 1 ≤ m ∧ i = .int .i64 ((k : Int) + 1) ∧ v = .int .u8 (mxL xs k) ∧ w = wr) (fun _ i _ => ((m : Int) - intOf i).toNat)
  case atStart => exact ⟨0, by have := hM.out; omega, rfl, by rw [hm0.out], rfl⟩
  case round =>
    obtain ⟨k, hk, rfl, rfl, rfl⟩ := hrel
    have hbd := mxL_bd xs hB.out k
    by_cases hlt : k + 1 < m
    · have c1 := hR'.out (k + 1) (by rw [hL.out]; have := hM.out; omega)
      have hx := hB.out (k + 1)
      have i1 : (k : Int) + 1 < (m : Int) := by omega
      have hst := Lib.hid (show mxL xs (k + 1) = if mxL xs k < xs.getD (k + 1) 0 then xs.getD (k + 1) 0 else mxL xs k from rfl)
      generalize xs.getD (k + 1) 0 = x at *
      generalize mxL xs k = y at *
      obtain ⟨a0, a8⟩ := hx
      obtain ⟨b0, b8⟩ := hbd
      have hb5 : ((k : Int) + 1).toNat = k + 1 := by omega
      go_wp2
      go_roundw
      case rel => exact ⟨k + 1, by omega, by go_num, by rw [hst.out], trivial⟩
      case measure => simp [intOf]; omega
    · have hkn : k = n := by have := hM.out; omega
      have i1 : ¬ (k : Int) + 1 < (m : Int) := by omega
      subst hkn
      go_wp2
      go_ret
      exact ⟨rfl, rfl⟩
end Go.Proofs.Ythjgcakpimbcbaa
