/- Skein sums: slices of a word before and behind a place. (Written by genskp.py's older form.) -/
import Derived.Test.YtbibmncepjmgcaaSkm
import Derived.Test.YtbibmncepjmgcaaLst
namespace Go.Proofs.Ytbibmncepjmgcaa
open Go.RowKit Go.Lib
set_option linter.unusedVariables false
set_option linter.unusedSimpArgs false
theorem add_addk (a : Addr) (k j : Nat) : (a.add k).add j = a.add (k + j) := by
  unfold Addr.add
  by_cases h1 : k = 0
  · subst h1; simp
  · by_cases h2 : j = 0
    · subst h2; simp [h1]
    · rw [if_neg h1, if_neg h2, if_neg (by omega)]
      simp [Nat.add_assoc]
theorem Rd.takeN {w : World} {p : Option Addr} {xs : List Int} (h : Rd w p xs) (k : Nat) : Rd w p (xs.take k) := by
  refine ⟨fun a e j hj => ?_, fun e => by rw [h.nil e]; simp⟩
  simp only [List.length_take] at hj
  rw [h.cell a e j (by omega), List.getD_eq_getElem?_getD, List.getD_eq_getElem?_getD, List.getElem?_take_of_lt (by omega)]
theorem Rd.dropN {w : World} {a : Addr} {xs : List Int} (h : Rd w (some a) xs) (k : Nat) : Rd w (some (a.add k)) (xs.drop k) := by
  refine ⟨fun b e j hj => ?_, fun e => by cases e⟩
  cases e
  simp only [List.length_drop] at hj
  rw [add_addk, h.cell a rfl (k + j) (by omega), List.getD_eq_getElem?_getD, List.getD_eq_getElem?_getD, List.getElem?_drop]
/-- Where a slice from behind k on begins: an empty one stays where it was. -/
def bhA (q : Addr) (k m : Nat) : Addr := if m = k + 1 then q else q.add (k + 1)
theorem Rd.bh {w : World} {q : Addr} {xs : List Int} (h : Rd w (some q) xs) (k m : Nat) (hm : xs.length = m) : Rd w (some (bhA q k m)) (xs.drop (k + 1)) := by
  unfold bhA
  split
  · have e : xs.drop (k + 1) = [] := List.drop_eq_nil_of_le (by omega)
    rw [e]
    have := Rd.takeN h 0
    simpa using this
  · exact Rd.dropN h (k + 1)
theorem slA (q : Addr) (k m : Nat) (h : k ≤ m) : ∀ w : World, (Instr.slice 34 (.slice (some q) m m) none (some (.int .i64 (k : Int))) none).run Try.prog w = .ok (.slice (some q) k m) w := by
  intro w
  have hs : (sizeOf (Try.prog.elem 34)).run Try.prog w = .ok 1 w := by kernel_rfl
  rw [run_slice_h w 34 (some q) m m (by kernel_rfl) .i64 (k : Int) (by omega) (by omega), hs]
  simp [sliced, Result.andThen, Addr.add]
theorem slB (q : Addr) (k m : Nat) (h : k < m) : ∀ w : World, (Instr.slice 34 (.slice (some q) m m) (some (.int .i64 ((k : Int) + 1))) none none).run Try.prog w = .ok (.slice (some (bhA q k m)) (m - (k + 1)) (m - (k + 1))) w := by
  intro w
  have hs : (sizeOf (Try.prog.elem 34)).run Try.prog w = .ok 1 w := by kernel_rfl
  rw [run_slice_l w 34 (some q) m m (by kernel_rfl) .i64 ((k : Int) + 1) (by omega) (by omega), hs]
  have e : ((k : Int) + 1).toNat = k + 1 := by omega
  unfold bhA
  simp only [sliced, Result.andThen, e, Nat.mul_one]
  split <;> simp_all
end Go.Proofs.Ytbibmncepjmgcaa
