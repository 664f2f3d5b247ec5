/- The contract of the program's turning of a point. -/
import Derived.Test.YtfbocodkelmemaaMove
namespace Go.Proofs.Ytfbocodkelmemaa
open Go.RowKit
def turnF (n i : Int) : Int := pl n ((pl n i + 1) % (2 * n))
theorem turnC_enters (args : Array Value) (w : World) : (callFunc 81 args).run Try.prog w = .ok (.enter 81 args) w := by kernel_rfl
theorem turnC_bd (n i : Int) (h1 : 1 ≤ n) (h8 : n ≤ 8) (_ : 0 ≤ i) (_ : i < 2 * n) : 0 ≤ turnF n i ∧ turnF n i < 16 := by
  have a := Int.emod_nonneg (pl n i + 1) (show 2 * n ≠ 0 by omega)
  have b := Int.emod_lt_of_pos (pl n i + 1) (show 0 < 2 * n by omega)
  have := pl_bd n _ h8 a b
  unfold turnF; omega
set_option maxRecDepth 100000 in
set_option maxHeartbeats 400000 in
theorem turnC_any (n i : Int) (b : Nat) (w : World) (h1 : 1 ≤ n) (h8 : n ≤ 8) (h0 : 0 ≤ i) (h2 : i < 2 * n) (ho : Own w b #[.int .i64 n] 2) :
    Calls Try.prog 81 #[.int .i64 i, .pointer (some ⟨b, 0, none⟩)] w fun e w' => e = .returned (.int .i64 (turnF n i)) ∧ w' = w.drew := by
  have q := pl_bd n i h8 h0 h2
  obtain ⟨x, hx⟩ : ∃ x, pl n i = x := ⟨_, rfl⟩
  rw [hx] at q
  obtain ⟨y, hy⟩ : ∃ y, (x + 1) % (2 * n) = y := ⟨_, rfl⟩
  have y0 := Int.emod_nonneg (x + 1) (show 2 * n ≠ 0 by omega)
  have y2 := Int.emod_lt_of_pos (x + 1) (show 0 < 2 * n by omega)
  rw [hy] at y0 y2
  have hf := Lib.hid (show turnF n i = pl n y by unfold turnF; rw [hx, hy])
  have HX := Lib.hid hx
  have HY := Lib.hid hy
  clear hx hy
  go_enter Try.func81, Try.ntmps81
  go_wp2
  refine wp_region_still_lit (by kernel_rfl) (by kernel_rfl) ?_
  have hO' : Own { w with drawn := w.drawn + 1 } b #[.int .i64 n] 2 := ho
  have hE' : Hid (({ w with drawn := w.drawn + 1 } : World) = w.drew) := Lib.hid rfl
  generalize ({ w with drawn := w.drawn + 1 } : World) = wd at *
  have k0 : wd.cell? ⟨b, 0, none⟩ = some (.int .i64 n) := hO'.cell 0
  have c1 : Hid (Calls Try.prog 83 #[.int .i64 n, .int .i64 i] wd fun e w' => e = .returned (.int .i64 x) ∧ w' = wd) :=
    Lib.hid ((placeI_any n i wd (by omega) h8 h0 (by omega)).mono fun e w' ⟨he, hw⟩ => ⟨by rw [he, HX.out], hw.symm⟩)
  have c2 : Hid (Calls Try.prog 82 #[.int .i64 n, .int .i64 y] wd fun e w' => e = .returned (.int .i64 (pl n y)) ∧ w' = wd) :=
    Lib.hid ((pointI_any n y wd (by omega) h8 y0 (by omega)).mono fun e w' ⟨he, hw⟩ => ⟨he, hw.symm⟩)
  have n2 : 2 * n ≠ 0 := by omega
  have w1 : IntKind.i64.wrap (x + 1) = x + 1 := IntWalk.i64_in _ (by omega)
  have w2 : IntKind.i64.wrap (2 * n) = 2 * n := IntWalk.i64_in _ (by omega)
  have t1 : (x + 1).tmod (2 * n) = y := by rw [Int.tmod_eq_emod_of_nonneg (by omega)]; exact HY.out
  still_step
  still_step
  still_step
  still_call c1.out
  still_step
  still_step
  still_step
  still_step
  still_call c2.out
  still_step
  refine wpStill_nil ?_
  clear w1 w2 t1 k0
  go_wp2
  go_ret
  exact ⟨by rw [hf.out]; rfl, hE'.out⟩
end Go.Proofs.Ytfbocodkelmemaa
