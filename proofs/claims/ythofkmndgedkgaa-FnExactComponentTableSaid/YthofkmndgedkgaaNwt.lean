/- newTable: the rows of a table lie in one block. -/
import Derived.Test.YthofkmndgedkgaaRws
namespace Go.Proofs.Ythofkmndgedkgaa
open Go.RowKit
set_option linter.unusedVariables false
set_option linter.unusedSimpArgs false
theorem makeRR (n : Nat) (hn : n ≤ 1000) : ∀ w : World, (Instr.makeSlice 30 (.int .i64 n) (.int .i64 n)).run Try.prog w = .ok (.slice (some ⟨w.heap.size, 0, none⟩) n n) (w.alloc (.cells (madeCells #[.slice none 0 0] n) 35)) := by
  intro w
  obtain ⟨i0, hi0, hz0, hz1, hz2⟩ := info_parts infoR
  have := run_make w 30 35 i0 (.slice none 0 0) Try.underlying30 hi0 hz0 .i64 .i64 (n : Int) (n : Int) (by omega) (by omega) (by rw [hz2]; omega) (by omega)
  rw [this, hz1]
  simp only [Int.toNat_natCast, Nat.mul_one]
  rfl
/-- The rows of a table of n times n numbers in the block g. -/
def Rof (cs : Array Value) (g n k : Nat) : Prop := cs.size = n ∧ ∀ i, i < k → cs[i]? = some (.slice (some ⟨g, i * n, none⟩) n n)
set_option maxRecDepth 100000 in
set_option maxHeartbeats 1000000 in
theorem nwt_ok (n : Nat) (h1 : 1 ≤ n) (h2 : n ≤ 200) (w : World) :
    Calls Try.prog 107 #[.int .i64 n, .int .i64 n] w fun e w' => ∃ cs, e = .returned (.slice (some ⟨w.heap.size + 1, 0, none⟩) n n) ∧ Own w' w.heap.size (icells (List.replicate (n * n) 0)) 2 ∧ Own w' (w.heap.size + 1) cs 35 ∧ Rof cs w.heap.size n n ∧ Below w.heap.size w w' := by
  have hm := Nat.mul_le_mul h2 h2
  obtain ⟨P, hP⟩ : ∃ P, n * n = P := ⟨_, rfl⟩
  have hPP : (n : Int) * (n : Int) = (P : Int) := by rw [← hP]; simp
  rw [hP] at hm ⊢
  have hmk := makeI P (by omega)
  have hmr := makeRR n (by omega)
  have HP := Lib.hid hP
  clear hP
  go_enter Try.func107, Try.ntmps107
  go_wp2
  clear hmk hmr
  obtain ⟨cs0, hcs0⟩ : ∃ cs, madeCells #[Value.slice none 0 0] n = cs := ⟨_, rfl⟩
  have hsz0 := madeAA_size n
  rw [hcs0] at hsz0 ⊢
  clear hcs0
  go_loopw [16] (fun i wr => ∃ (k : Nat) (cs : Array Value), k ≤ n ∧ i = .int .i64 k ∧ Own wr w.heap.size (icells (List.replicate P 0)) 2 ∧ Own wr (w.heap.size + 1) cs 35 ∧ Rof cs w.heap.size n k ∧ Below w.heap.size w wr) (fun i _ => ((n : Int) - intOf i).toNat)
  case atStart => exact ⟨0, cs0, by omega, rfl, (Own.new _ _ _).alloc _, Own.at _ _ _ (by simp), ⟨hsz0, fun i hi => by omega⟩, ((Below.refl _ _).alloc (Nat.le_refl _) _).alloc (by simp) _⟩
  case round =>
    obtain ⟨k, cs, hk, rfl, hO1, hO2, hRo, hB⟩ := hrel
    by_cases hlt : k < n
    · have hkn : (k + 1) * n ≤ P := by rw [← HP.out]; exact Nat.mul_le_mul_right n (by omega)
      have hsm : (k + 1) * n = k * n + n := Nat.succ_mul k n
      obtain ⟨A, hA⟩ : ∃ A, k * n = A := ⟨_, rfl⟩
      have hA1 : (k : Int) * (n : Int) = (A : Int) := by rw [← hA]; simp
      have hA2 : ((k : Int) + 1) * (n : Int) = (A : Int) + (n : Int) := by rw [← hA1, Int.add_mul, Int.one_mul]
      rw [hsm, hA] at hkn
      clear hsm
      have HA := Lib.hid hA
      clear hA
      have i1 : (k : Int) < (n : Int) := by omega
      have hsz := hRo.1
      have f2 := hO2.free k
      have c2 : wr.cell? ⟨w.heap.size + 1, k, none⟩ = some (cs[k]'(by omega)) := by rw [hO2.cell]; exact Array.getElem?_eq_getElem (by omega)
      go_wp2
      go_roundw
      case rel =>
        refine ⟨k + 1, _, by omega, by go_num, hO1.other (by show w.heap.size + 1 ≠ w.heap.size; omega) _, hO2.set k _, ⟨by simp [hsz], fun i hi => ?_⟩, hB.setCell (p := ⟨w.heap.size + 1, k, none⟩) (by show w.heap.size ≤ w.heap.size + 1; omega) _⟩
        by_cases e : i = k
        · subst e; rw [HA.out]; simp [hsz, hlt]
        · rw [Array.getElem?_setIfInBounds_ne (by omega)]; exact hRo.2 i (by omega)
      case measure => simp [intOf]; omega
    · have e : k = n := by omega
      subst e
      go_wp2
      go_ret
      exact ⟨cs, rfl, hO1, hO2, hRo, hB⟩
end Go.Proofs.Ythofkmndgedkgaa
