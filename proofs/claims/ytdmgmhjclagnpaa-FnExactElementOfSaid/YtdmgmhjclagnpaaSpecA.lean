/- Contracts of the model's smallest functions: ranges, and two points joined. -/
import Derived.Test.YtdmgmhjclagnpaaBase
namespace Go.Proofs.Ytdmgmhjclagnpaa
open Go.RowKit
set_option maxRecDepth 100000 in
theorem inS_any (n a b : Int) (w : World) :
    Calls Try.prog 49 #[.int .i64 n, .int .i64 a, .int .i64 b] w fun e w' => e = .returned (.bool (decide (a ≤ n ∧ n ≤ b))) ∧ w = w' := by
  go_enter Try.func49, Try.ntmps49
  go_wp2
  · go_ret
    exact ⟨by simp_all, rfl⟩
  · go_ret
    exact ⟨by simp_all; omega, rfl⟩
theorem inS_t (n a b : Int) (w : World) (h : a ≤ n) (h' : n ≤ b) :
    Calls Try.prog 49 #[.int .i64 n, .int .i64 a, .int .i64 b] w fun e w' => e = .returned (.bool true) ∧ w = w' :=
  (inS_any n a b w).mono fun e w' ⟨he, hw⟩ => ⟨by rw [he]; simp [h, h'], hw⟩
theorem inS_f (n a b : Int) (w : World) (h : n < a ∨ b < n) :
    Calls Try.prog 49 #[.int .i64 n, .int .i64 a, .int .i64 b] w fun e w' => e = .returned (.bool false) ∧ w = w' :=
  (inS_any n a b w).mono fun e w' ⟨he, hw⟩ => ⟨by rw [he]; simp; omega, hw⟩
set_option maxRecDepth 100000 in
theorem joinS_any (n : Int) (ms : List Int) (hms : ms.length = 16) (i j : Int) (w : World) (hi : 0 ≤ i) (hi2 : i < 16) (hj : 0 ≤ j) (hj2 : j < 16) :
    Calls Try.prog 100 #[.agg (dcells n ms), .int .i64 i, .int .i64 j] w fun e w' => e = .returned (.agg (dcells n (joinL ms i j))) ∧ Below w.heap.size w w' := by
  have H1 : (dcells n ms)[1 + i.toNat]? = some (.int .u8 (ms.getD i.toNat 0)) := dcells_get _ _ _ (by omega)
  have H2 := fun x => dcells_get n (ms.set i.toNat x) j.toNat (by simp; omega)
  have H3 := fun x => dcells_set n ms i.toNat x
  have H4 := fun x y => dcells_set n (ms.set i.toNat x) j.toNat y
  have hh := Lib.hid hms
  clear hms
  go_enter Try.func100, Try.ntmps100
  go_wp2_with (first | (refine wpList_load_row rfl 53 _ rfl _ rfl 53 _ (0, 0) _ ((Own.new _ _ _).alloc _) Try.underlying53 rfl (row26 (d17 _ _ (by simp [hh.out]))) ?_) | (refine wpList_store_row rfl 53 _ _ rfl _ _ rfl rfl 53 _ (Own.at _ _ _ (by simp)) (row26 (d17 _ _ (by simp [hh.out]))) (by rw [d17 _ _ (by simp [hh.out])]; rfl) (dcells_one _ _) ?_))
  refine bodyPost_ret (v := .agg (dcells n ((ms.set i.toNat j).set j.toNat i))) (results_cell_row rfl _ _ _ _ _ (0, 0) _ rfl (Own.row (Own.at _ _ _ (by simp)) _) Try.underlying53 rfl (row26 (d17 _ _ (by simp [hh.out])))) rfl ⟨rfl, ?_⟩
  exact Below.row (((Below.refl _ _).alloc (Nat.le_refl _) _).alloc (by simp) _) (by omega) _
theorem built26one (n : Int) : Try.prog.built 53 [(0, .int .i64 n)] = some (dcells n zeros) := by kernel_rfl
end Go.Proofs.Ytdmgmhjclagnpaa
