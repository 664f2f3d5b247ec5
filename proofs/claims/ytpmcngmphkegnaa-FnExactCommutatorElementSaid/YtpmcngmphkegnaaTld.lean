/- The model's l02Told: an element, or the error of too many terms. -/
import Derived.Test.YtpmcngmphkegnaaCpr
import Derived.Test.YtpmcngmphkegnaaKi
namespace Go.Proofs.Ytpmcngmphkegnaa
open Go.RowKit Go.Lib
set_option linter.unusedVariables false
set_option linter.unusedSimpArgs false
set_option maxRecDepth 100000 in
set_option maxHeartbeats 4000000 in
theorem toldS_ok (p c n : Int) (q : Option Addr) (l cap : Nat) (hl : l ≤ 140) (w : World) :
    Calls Try.prog 46 #[.agg (ecl p c n (.slice q l cap))] w fun e w' => e = .returned (.tuple #[.agg (ecl p c n (.slice q l cap)), .int .i64 0]) ∧ Below w.heap.size w w' := by
  have hlt : ¬ (140 : Int) < (l : Int) := by omega
  clear hl
  have oX := (Own.new w #[.int .i64 p, .int .i64 c, .int .i64 n, .slice q l cap] 28).alloc (.cells #[.int .i64 0, .int .i64 0, .int .i64 0, .slice none 0 0] 28)
  have oR := Own.at (w.alloc (.cells #[.int .i64 p, .int .i64 c, .int .i64 n, .slice q l cap] 28)) #[.int .i64 0, .int .i64 0, .int .i64 0, .slice none 0 0] 28 (by simp : _ = w.heap.size + 1)
  have hb := ((Below.refl w.heap.size w).alloc (Nat.le_refl _) (.cells #[.int .i64 p, .int .i64 c, .int .i64 n, .slice q l cap] 28)).alloc (by simp) (.cells #[.int .i64 0, .int .i64 0, .int .i64 0, .slice none 0 0] 28)
  have k3 := oX.cell 3
  unfold ecl
  go_enter Try.func46, Try.ntmps46
  go_wp2_with (first
    | (refine wpList_load_row rfl 28 _ rfl _ rfl 28 _ (0, 0) _ oX Try.underlying28 rfl (by kernel_rfl) ?_)
    | (refine wpList_store_own rfl 28 _ _ rfl _ _ rfl rfl 28 _ oR (by kernel_rfl) rfl (by simp [Value.oneCell']) ?_; intro w5 oR5 hN5))
  refine bodyPost_ret (v := .tuple #[.agg #[.int .i64 p, .int .i64 c, .int .i64 n, .slice q l cap], .int .i64 0]) (results_row_tmp rfl _ _ _ _ _ (0, 0) _ rfl oR5 Try.underlying28 rfl (by kernel_rfl) _ rfl) rfl ⟨rfl, hb.trans (hN5.below.mono (by omega))⟩
set_option maxRecDepth 100000 in
set_option maxHeartbeats 4000000 in
theorem toldS_big (p c n : Int) (q : Option Addr) (l cap : Nat) (hl : 140 < l) (w : World) :
    Calls Try.prog 46 #[.agg (ecl p c n (.slice q l cap))] w fun e w' => e = .returned (.tuple #[.agg (ecl 0 0 0 (.slice none 0 0)), .int .i64 3]) ∧ Below w.heap.size w w' := by
  have hlt : (140 : Int) < (l : Int) := by omega
  clear hl
  have oX := (Own.new w #[.int .i64 p, .int .i64 c, .int .i64 n, .slice q l cap] 28).alloc (.cells #[.int .i64 0, .int .i64 0, .int .i64 0, .slice none 0 0] 28)
  have oR := Own.at (w.alloc (.cells #[.int .i64 p, .int .i64 c, .int .i64 n, .slice q l cap] 28)) #[.int .i64 0, .int .i64 0, .int .i64 0, .slice none 0 0] 28 (by simp : _ = w.heap.size + 1)
  have hb := ((Below.refl w.heap.size w).alloc (Nat.le_refl _) (.cells #[.int .i64 p, .int .i64 c, .int .i64 n, .slice q l cap] 28)).alloc (by simp) (.cells #[.int .i64 0, .int .i64 0, .int .i64 0, .slice none 0 0] 28)
  have k3 := oX.cell 3
  have b00 := built00
  unfold ecl at *
  go_enter Try.func46, Try.ntmps46
  go_wp2_with (first
    | (refine wpList_store_own rfl 28 _ _ rfl _ _ rfl rfl 28 _ oR (by kernel_rfl) rfl (by simp [Value.oneCell']) ?_; intro w5 oR5 hN5))
  refine bodyPost_ret (v := .tuple #[.agg #[.int .i64 0, .int .i64 0, .int .i64 0, .slice none 0 0], .int .i64 3]) (results_row_tmp rfl _ _ _ _ _ (0, 0) _ rfl oR5 Try.underlying28 rfl (by kernel_rfl) _ rfl) rfl ⟨rfl, hb.trans (hN5.below.mono (by omega))⟩
end Go.Proofs.Ytpmcngmphkegnaa
