/- All partitions of a size, in order: the lists of both. -/
import Derived.Test.YthjgcakpimbcbaaPaf
import Derived.Test.YthjgcakpimbcbaaImplA
namespace Go.Proofs.Ythjgcakpimbcbaa
open Go.RowKit Go.Lib
set_option linter.unusedVariables false
set_option linter.unusedSimpArgs false
/-- All partitions of a size, in order. -/
def allP (n : Nat) : List PtR := prw n (pf (2 * n) 0 0 zer8)
theorem pf_8 (f : Nat) : ∀ (k nx : Nat) (ms : List Int), ms.length = 8 → ∀ x ∈ pf f k nx ms, x.length = 8 := by
  induction f with
  | zero => intro k nx ms h x hx; simp [pf] at hx; subst hx; exact h
  | succ f ih =>
    intro k nx ms h x hx
    rw [pf, List.mem_flatMap] at hx
    obtain ⟨p, _, hp⟩ := hx
    exact ih _ _ _ (by rw [List.length_set]; exact h) x hp
theorem allP_16 (n : Nat) : LP8 (allP n) := by
  intro d hd
  unfold allP prw at hd
  rw [List.mem_map] at hd
  obtain ⟨x, hx, rfl⟩ := hd
  exact pf_8 _ _ _ _ zlen8 x hx
theorem allP_len (n : Nat) (h1 : 1 ≤ n) (h4 : n ≤ 4) : (allP n).length ≤ 4140 := by
  unfold allP
  rw [prw_len, pf_len]
  have h : n = 1 ∨ n = 2 ∨ n = 3 ∨ n = 4 := by omega
  rcases h with rfl | rfl | rfl | rfl <;> decide +kernel
theorem allP_pos (n : Nat) (h1 : 1 ≤ n) (h4 : n ≤ 4) : 0 < (allP n).length := by
  unfold allP
  rw [prw_len, pf_len]
  have h : n = 1 ∨ n = 2 ∨ n = 3 ∨ n = 4 := by omega
  rcases h with rfl | rfl | rfl | rfl <;> decide +kernel
def LpPost (n : Nat) (w : World) (e : Ending) (w' : World) : Prop := ∃ v', e = .returned v' ∧ RowQ w' w.heap.size v' (allP n) ∧ Below w.heap.size w w'
set_option maxRecDepth 100000 in
theorem lpI_any (n : Nat) (h1 : 1 ≤ n) (h4 : n ≤ 4) (w : World) : Calls Try.prog 17 #[.int .i64 n] w (LpPost n w) := by
  have hc : cP (2 * n) 0 ≤ 4140 := by
    have := allP_len n h1 h4
    unfold allP at this
    rwa [prw_len, pf_len] at this
  have hf := Lib.hid (show Calls Try.prog 23 #[.slice none 0 0, .agg (dcells n zer8), .int .i64 0, .int .u8 0] w (PafPost w.heap.size (.slice none 0 0) [] n (pf (2 * n) 0 0 zer8) w) from fillI_any n h1 h4 (2 * n) 0 0 w.heap.size zer8 (.slice none 0 0) [] w (by omega) (Nat.le_refl _) zlen8 (RowQ.nil _ _) (Nat.le_refl _) (by simp; omega))
  have hpost := Lib.hid (show ∀ e w', PafPost w.heap.size (.slice none 0 0) [] n (pf (2 * n) 0 0 zer8) w e w' → LpPost n w e w' from fun e w' ⟨v', he, hR, _, hB⟩ => ⟨v', he, by simpa [allP] using hR, hB⟩)
  have hb := builtP1 (n : Int)
  clear hc
  go_enter Try.func17, Try.ntmps17
  go_wp2_with (first
    | (refine wpList_build_of rfl 38 #[(0, .tmp 3)] rfl (dcells n zer8) ?_ ?_; (exact hb))
    | (go_at_call 23; ((with_reducible refine (hf.out).mono ?_); rintro e w1 h1; obtain ⟨v1, he, hR1, hB1⟩ := hpost.out _ _ h1; subst he)))
  go_ret
  exact ⟨_, rfl, hR1, hB1⟩
set_option maxRecDepth 100000 in
theorem lpS_any (n : Nat) (h1 : 1 ≤ n) (h4 : n ≤ 4) (w : World) : Calls Try.prog 16 #[.int .i64 n] w (LpPost n w) := by
  have hc : cP (2 * n) 0 ≤ 4140 := by
    have := allP_len n h1 h4
    unfold allP at this
    rwa [prw_len, pf_len] at this
  have hf := Lib.hid (show Calls Try.prog 22 #[.slice none 0 0, .agg (dcells n zer8), .int .i64 0, .int .u8 0] w (PafPost w.heap.size (.slice none 0 0) [] n (pf (2 * n) 0 0 zer8) w) from fillS_any n h1 h4 (2 * n) 0 0 w.heap.size zer8 (.slice none 0 0) [] w (by omega) (Nat.le_refl _) zlen8 (RowQ.nil _ _) (Nat.le_refl _) (by simp; omega))
  have hpost := Lib.hid (show ∀ e w', PafPost w.heap.size (.slice none 0 0) [] n (pf (2 * n) 0 0 zer8) w e w' → LpPost n w e w' from fun e w' ⟨v', he, hR, _, hB⟩ => ⟨v', he, by simpa [allP] using hR, hB⟩)
  have hb := builtP1 (n : Int)
  clear hc
  go_enter Try.func16, Try.ntmps16
  go_wp2_with (first
    | (refine wpList_build_of rfl 38 #[(0, .tmp 3)] rfl (dcells n zer8) ?_ ?_; (exact hb))
    | (go_at_call 22; ((with_reducible refine (hf.out).mono ?_); rintro e w1 h1; obtain ⟨v1, he, hR1, hB1⟩ := hpost.out _ _ h1; subst he)))
  go_ret
  exact ⟨_, rfl, hR1, hB1⟩
end Go.Proofs.Ythjgcakpimbcbaa
