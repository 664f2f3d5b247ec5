/- Contracts of the program's smallest functions: sizes, new lists of mates, two points joined, a diagram out of its mates. -/
import Derived.Test.YtdmgmhjclagnpaaBase
namespace Go.Proofs.Ytdmgmhjclagnpaa
open Go.RowKit
set_option maxRecDepth 100000 in
theorem isSize_any (n : Int) (w : World) :
    Calls Try.prog 68 #[.int .i64 n] w fun e w' => e = .returned (.bool (decide (1 ≤ n ∧ n ≤ 8))) ∧ w = w' := by
  go_enter Try.func68, Try.ntmps68
  go_wp2
  · go_ret
    exact ⟨by simp_all, rfl⟩
  · go_ret
    exact ⟨by simp_all; omega, rfl⟩
theorem make16 : ∀ w : World, (Instr.makeSlice 106 (.int .i64 16) (.int .i64 16)).run Try.prog w = .ok (.slice (some ⟨w.heap.size, 0, none⟩) 16 16) (w.alloc (.cells (mcells zeros) 5)) := by
  intro w; kernel_rfl
set_option maxRecDepth 100000 in
theorem newMates_any (w : World) :
    Calls Try.prog 82 #[] w fun e w' => e = .returned (.slice (some ⟨w.heap.size, 0, none⟩) 16 16) ∧ w' = w.alloc (.cells (mcells zeros) 5) := by
  have hmk := make16
  go_enter Try.func82, Try.ntmps82
  go_wp2
  go_ret
  exact ⟨rfl, rfl⟩
set_option maxRecDepth 100000 in
theorem join_any (b : Nat) (ms : List Int) (hms : ms.length = 16) (i j : Int) (w : World) (ho : Own w b (mcells ms) 5) (hi : 0 ≤ i) (hi2 : i < 16) (hj : 0 ≤ j) (hj2 : j < 16) :
    Calls Try.prog 83 #[.slice (some ⟨b, 0, none⟩) 16 16, .int .i64 i, .int .i64 j] w fun e w' => e = .returned (.tuple #[]) ∧ Own w' b (mcells (joinL ms i j)) 5 ∧ Only b w w' := by
  have c1 : w.cell? ⟨b, i.toNat, none⟩ = some (.int .u8 (ms.getD i.toNat 0)) := by rw [ho.cell, mcells_get _ _ (by omega)]
  have c2 : (w.setCell ⟨b, i.toNat, none⟩ (.int .u8 j)).cell? ⟨b, j.toNat, none⟩ = some (.int .u8 ((ms.set i.toNat j).getD j.toNat 0)) := by rw [(ho.set _ _).cell, mcells_set, mcells_get _ _ (by simp; omega)]
  have f1 : w.frozen? ⟨b, i.toNat, none⟩ = false := ho.free _
  have f2 : w.frozen? ⟨b, j.toNat, none⟩ = false := ho.free _
  have hh := Lib.hid hms
  clear hms
  go_enter Try.func83, Try.ntmps83
  go_wp2
  go_end0
  refine ⟨rfl, ?_, (Only.set _ _ _ _).trans (Only.set _ _ _ _)⟩
  have := (ho.set i.toNat (.int .u8 j)).set j.toNat (.int .u8 i)
  rwa [mcells_set, mcells_set] at this
theorem built26 (n : Int) (ms : List Int) (h : ms.length = 16) : Try.prog.built 53 [(0, .int .i64 n), (1, .agg (mcells ms))] = some (dcells n ms) := by
  obtain ⟨a0, a1, a2, a3, a4, a5, a6, a7, a8, a9, b0, b1, b2, b3, b4, b5, rfl⟩ := list16 ms h
  kernel_rfl
theorem arrayAt16 (b : Nat) : ∀ w : World, (Instr.arrayAt 49 (.slice (some ⟨b, 0, none⟩) 16 16)).run Try.prog w = .ok (.pointer (some ⟨b, 0, none⟩)) w := by
  intro w; kernel_rfl
set_option maxRecDepth 100000 in
theorem dom_any (b : Nat) (ms : List Int) (hms : ms.length = 16) (n : Int) (w : World) (ho : Own w b (mcells ms) 5) :
    Calls Try.prog 84 #[.int .i64 n, .slice (some ⟨b, 0, none⟩) 16 16] w fun e w' => e = .returned (.agg (dcells n ms)) ∧ Below w.heap.size w w' := by
  have hh := Lib.hid hms
  have hb := Lib.hid (built26 n ms hms)
  clear hms
  have hat := arrayAt16 b
  go_enter Try.func84, Try.ntmps84
  go_wp2_with (first | (refine wpList_build_of rfl 53 #[(0, .tmp 5), (1, .tmp 8)] rfl (dcells n ms) ?_ ?_; (exact hb.out)) | (refine wpList_load_row rfl 49 _ rfl _ rfl 5 _ (0, 0) _ (Own.alloc ho _) Try.underlying49 rfl (row24 (m16 _ hh.out)) ?_) | (refine wpList_store_row rfl 53 _ _ rfl _ _ rfl rfl 53 _ (Own.at _ _ _ (by first | rfl | simp)) (row26 (d17 _ _ (by simp [hh.out]))) (by rw [d17 _ _ (by simp [hh.out])]; rfl) (dcells_one _ _) ?_))
  refine bodyPost_ret (v := .agg (dcells n ms)) (results_cell_row rfl _ _ _ _ _ (0, 0) _ rfl (Own.row (Own.new _ _ _) _) Try.underlying53 rfl (row26 (d17 _ _ hh.out))) rfl ⟨rfl, ?_⟩
  exact Below.row ((Below.refl _ _).alloc (Nat.le_refl _) _) (Nat.le_refl _) _
theorem isSize_t (n : Int) (w : World) (h : 1 ≤ n) (h' : n ≤ 8) :
    Calls Try.prog 68 #[.int .i64 n] w fun e w' => e = .returned (.bool true) ∧ w = w' :=
  (isSize_any n w).mono fun e w' ⟨he, hw⟩ => ⟨by rw [he]; simp [h, h'], hw⟩
theorem isSize_f (n : Int) (w : World) (h : n < 1 ∨ 8 < n) :
    Calls Try.prog 68 #[.int .i64 n] w fun e w' => e = .returned (.bool false) ∧ w = w' :=
  (isSize_any n w).mono fun e w' ⟨he, hw⟩ => ⟨by rw [he]; simp; omega, hw⟩
end Go.Proofs.Ytdmgmhjclagnpaa
