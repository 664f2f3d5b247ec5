/- ThetaNumber: the model's walk and the law. -/
import Derived.Test.YtmcffhafonemeaaTheS
import Derived.Test.YtmcffhafonemeaaTheW
import Derived.Deep.QuietTactic
import Derived.BigQuiet
namespace Go.Proofs.Ytmcffhafonemeaa
open Go.RowKit
set_option linter.unusedVariables false
/-- The model's theta number. -/
def thS (p c x y v : Int) : Int := gz p c (x + y + v) * gz p c (x - 1) % p * gz p c (y - 1) % p * gz p c (v - 1) % p * rcp p (gz p c (y + v - 1) * gz p c (v + x - 1) % p * gz p c (x + y - 1) % p) % p
theorem gz_pos {p c : Int} (hp : primeB p = true) (k : Int) (h : k.toNat < fz p c) : 1 ≤ gz p c k ∧ gz p c k < p := gpr_pos p c hp _ h
theorem th_same (p c x y v : Int) (hp : primeB p = true) (h1 : y + v < fz p c) (h2 : v + x < fz p c) (h3 : x + y < fz p c) (h0 : 1 ≤ fz p c) : thI p c x y v = thS p c x y v := by
  obtain ⟨a0, a1⟩ := gz_pos (c := c) hp (y + v - 1) (by omega)
  obtain ⟨b0, b1⟩ := gz_pos (c := c) hp (v + x - 1) (by omega)
  obtain ⟨c0, c1⟩ := gz_pos (c := c) hp (x + y - 1) (by omega)
  unfold thS
  rw [← theta_eq p _ _ _ _ hp a0 a1 b0 b1 c0 c1]
  rfl
theorem step_facts {p A B : Int} (hp : 2 ≤ p) (hp2 : p ≤ 97) (a : 0 ≤ A ∧ A < p) (b : 0 ≤ B ∧ B < p) :
    IntKind.i64.wrap (A * B) = A * B ∧ (A * B).tmod p = A * B % p ∧ IntKind.i64.wrap (A * B % p) = A * B % p ∧ 0 ≤ A * B % p ∧ A * B % p < p := by
  have m := bnd_mul p A B 0 hp hp2 a.1 a.2 b.1 b.2
  have h0 := Int.emod_nonneg (A * B) (show p ≠ 0 by omega)
  have h1 := Int.emod_lt_of_pos (A * B) (show 0 < p by omega)
  exact ⟨IntWalk.i64_in _ (by omega), Int.tmod_eq_emod_of_nonneg m.1, IntWalk.i64_in _ (by omega), h0, h1⟩
set_option maxRecDepth 100000 in
set_option maxHeartbeats 2000000 in
theorem theS_ok (p c a b d x y v : Int) (w : World) (hm : modB p c = true) (hL : labB (fz p c) [a, b, d] = true) (hA : admB (fz p c) a b d = true) (ex : (a + b - d) / 2 = x) (ey : (b + d - a) / 2 = y) (ev : (d + a - b) / 2 = v) :
    Calls Try.prog 7 #[.int .i64 p, .int .i64 c, .int .i64 a, .int .i64 b, .int .i64 d] w fun e w' => e = .returned (.tuple #[.int .i64 (thS p c x y v), .int .i64 0]) ∧ Below w.heap.size w w' := by
  obtain ⟨hpr, hp, hp2, hc0, hc1⟩ := modB_spec hm
  obtain ⟨z0, z1, z97⟩ := has_zero p c hpr hc0 hc1
  obtain ⟨⟨a0, a1⟩, ⟨b0, b1⟩, d0, d1⟩ := labB_three hL
  have hA' := hA
  unfold admB at hA'
  rw [decide_eq_true_iff] at hA'
  obtain ⟨m2, t1, t2, t3, t4⟩ := hA'
  have hl0 := labS3 p c a b d hm
  simp only [hL, if_true] at hl0
  have hl := Lib.hid hl0
  have had0 := fun w1 => admS_any (fz p c) a b d w1 (by omega) (by omega) a0 a1 b0 b1 d0 d1
  simp only [hA] at had0
  have had := Lib.hid had0
  have x0 : 0 ≤ x := by omega
  have y0 : 0 ≤ y := by omega
  have v0 : 0 ≤ v := by omega
  have x9 : x ≤ 96 := by omega
  have y9 : y ≤ 96 := by omega
  have v9 : v ≤ 96 := by omega
  have q1 : 0 ≤ a + b - d := by omega
  have q2 : 0 ≤ b + d - a := by omega
  have q3 : 0 ≤ d + a - b := by omega
  have hq := fun (k : Int) (hk : k ≤ 1000) (w1 : World) => (prodS_any p c k w1 hp hp2 hc0 hc1 hk).mono fun e w' h => (show e = .returned (.int .i64 (gz p c k)) ∧ w' = w1 from ⟨h.1, h.2.symm⟩)
  have h0 := Lib.hid (hq (x + y + v) (by omega))
  have h1 := Lib.hid (hq (x - 1) (by omega))
  have h2 := Lib.hid (hq (y - 1) (by omega))
  have h3 := Lib.hid (hq (v - 1) (by omega))
  have h4 := Lib.hid (hq (y + v - 1) (by omega))
  have h5 := Lib.hid (hq (v + x - 1) (by omega))
  have h6 := Lib.hid (hq (x + y - 1) (by omega))
  obtain ⟨f4a, f4b⟩ := gz_pos (c := c) hpr (y + v - 1) (by omega)
  obtain ⟨f5a, f5b⟩ := gz_pos (c := c) hpr (v + x - 1) (by omega)
  obtain ⟨f6a, f6b⟩ := gz_pos (c := c) hpr (x + y - 1) (by omega)
  have b1' := mul_ne p _ _ hpr f4a f4b f5a f5b
  have b2' : gz p c (y + v - 1) * gz p c (v + x - 1) % p < p := Int.emod_lt_of_pos _ (by omega)
  have b3' := mul_ne p _ _ hpr b1' b2' f6a f6b
  have b4' : gz p c (y + v - 1) * gz p c (v + x - 1) % p * gz p c (x + y - 1) % p < p := Int.emod_lt_of_pos _ (by omega)
  have hin := Lib.hid (fun w1 => invS_any p _ w1 hpr b3' b4')
  have f0 := gz_range p c (x + y + v) hp
  have f1 := gz_range p c (x - 1) hp
  have f2 := gz_range p c (y - 1) hp
  have f3 := gz_range p c (v - 1) hp
  have fr := pw_range p (gz p c (y + v - 1) * gz p c (v + x - 1) % p * gz p c (x + y - 1) % p) hp (p - 2).toNat
  change 0 ≤ rcp p (gz p c (y + v - 1) * gz p c (v + x - 1) % p * gz p c (x + y - 1) % p) ∧ rcp p (gz p c (y + v - 1) * gz p c (v + x - 1) % p * gz p c (x + y - 1) % p) < p at fr
  unfold thS
  clear b1' b2' b3' b4' hq hl0 had0 hL hA m2 t1 t2 t3 hm hpr z0
  generalize gz p c (x + y + v) = G0 at *
  generalize gz p c (x - 1) = G1 at *
  generalize gz p c (y - 1) = G2 at *
  generalize gz p c (v - 1) = G3 at *
  generalize gz p c (y + v - 1) = G4 at *
  generalize gz p c (v + x - 1) = G5 at *
  generalize gz p c (x + y - 1) = G6 at *
  have s1 := step_facts hp hp2 f0 f1
  generalize hA1 : G0 * G1 % p = A1 at *
  have s2 := step_facts hp hp2 s1.2.2.2 f2
  generalize hA2 : A1 * G2 % p = A2 at *
  have s3 := step_facts hp hp2 s2.2.2.2 f3
  generalize hA3 : A2 * G3 % p = A3 at *
  have s4 := step_facts hp hp2 ⟨by omega, f4b⟩ (show 0 ≤ G5 ∧ G5 < p by omega)
  generalize hA4 : G4 * G5 % p = A4 at *
  have s5 := step_facts hp hp2 s4.2.2.2 (show 0 ≤ G6 ∧ G6 < p by omega)
  generalize hA5 : A4 * G6 % p = A5 at *
  have s6 := step_facts hp hp2 s3.2.2.2 fr
  generalize rcp p A5 = R at *
  generalize hA6 : A3 * R % p = A6 at *
  clear hA1 hA2 hA3 hA4 hA5 hA6
  go_enter Try.func7, Try.ntmps7
  go_wp2_with (first
    | (go_at_call 30; ((with_reducible refine (hl.out _).mono ?_); rintro e w1 ⟨rfl, rfl⟩))
    | (go_at_call 31; ((with_reducible refine (had.out _).mono ?_); rintro e w1 ⟨rfl, rfl⟩)))
  rw [ex, ey, ev]
  clear ex ey ev q1 q2 q3
  generalize hW : w.alloc (.cells #[.int .i64 a, .int .i64 b, .int .i64 d] 2) = w4 at *
  have hB4 : Hid (Below w.heap.size w w4) := Lib.hid (by rw [← hW]; exact (Below.refl _ _).alloc (Nat.le_refl _) _)
  clear hW
  obtain ⟨s1a, s1b, s1c, s1d, s1e⟩ := s1
  obtain ⟨s2a, s2b, s2c, s2d, s2e⟩ := s2
  obtain ⟨s3a, s3b, s3c, s3d, s3e⟩ := s3
  obtain ⟨s4a, s4b, s4c, s4d, s4e⟩ := s4
  obtain ⟨s5a, s5b, s5c, s5d, s5e⟩ := s5
  have e0 : (p == 0) = false := by simp; omega
  have e00 : ¬ p = 0 := by omega
  have u1 : IntKind.i64.wrap (x + y) = x + y := IntWalk.i64_in _ (by omega)
  have u2 : IntKind.i64.wrap (x + y + v) = x + y + v := IntWalk.i64_in _ (by omega)
  have u3 : IntKind.i64.wrap (x - 1) = x - 1 := IntWalk.i64_in _ (by omega)
  have u4 : IntKind.i64.wrap (y - 1) = y - 1 := IntWalk.i64_in _ (by omega)
  have u5 : IntKind.i64.wrap (v - 1) = v - 1 := IntWalk.i64_in _ (by omega)
  go_wp2_with fail
  refine wp_region_still_lit (by kernel_rfl) (by kernel_rfl) ?_
  have hB5 : Below w.heap.size w { w4 with drawn := w4.drawn + 1 } := hB4.out.drew
  have HB5 := Lib.hid hB5
  clear hB5 hB4
  generalize ({ w4 with drawn := w4.drawn + 1 } : World) = w5 at *
  still_step
  still_step
  still_step
  still_step
  still_step
  still_step
  still_step
  still_call (h0.out _)
  still_step
  still_step
  still_step
  still_step
  still_call (h1.out _)
  still_step
  still_step
  still_step
  still_step
  still_step
  still_step
  still_step
  still_call (h2.out _)
  still_step
  still_step
  still_step
  still_step
  still_step
  still_step
  still_step
  still_call (h3.out _)
  still_step
  still_step
  still_step
  still_step
  refine wpStill_nil ?_
  clear u2 u3 u4 u5 h0 h1 h2 h3 s1a s1b s1c s2a s2b s2c s3a s3b s3c
  have u6 : IntKind.i64.wrap (y + v) = y + v := IntWalk.i64_in _ (by omega)
  have u7 : IntKind.i64.wrap (v + x) = v + x := IntWalk.i64_in _ (by omega)
  have u8 : IntKind.i64.wrap (y + v - 1) = y + v - 1 := IntWalk.i64_in _ (by omega)
  have u9 : IntKind.i64.wrap (v + x - 1) = v + x - 1 := IntWalk.i64_in _ (by omega)
  have u10 : IntKind.i64.wrap (x + y - 1) = x + y - 1 := IntWalk.i64_in _ (by omega)
  go_wp2_with fail
  refine wp_region_still_lit (by kernel_rfl) (by kernel_rfl) ?_
  have hB6 : Below w.heap.size w { w5 with drawn := w5.drawn + 1 } := HB5.out.drew
  have HB6 := Lib.hid hB6
  clear hB6 HB5
  generalize ({ w5 with drawn := w5.drawn + 1 } : World) = w6 at *
  still_step
  still_step
  still_step
  still_step
  still_step
  still_step
  still_call (h4.out _)
  still_step
  still_step
  still_step
  still_step
  still_step
  still_step
  still_call (h5.out _)
  still_step
  still_step
  still_step
  still_step
  still_step
  still_step
  still_step
  still_step
  still_step
  still_call (h6.out _)
  still_step
  still_step
  still_step
  still_step
  refine wpStill_nil ?_
  clear u1 u6 u7 u8 u9 u10 h4 h5 h6 s4a s4b s4c s5a s5b s5c
  obtain ⟨s6a, s6b, s6c, s6d, s6e⟩ := s6
  go_wp2_with (first
    | (go_at_call 33; ((with_reducible refine (hin.out _).mono ?_); rintro e w7 ⟨rfl, rfl⟩)))
  go_ret2
  exact ⟨rfl, HB6.out⟩
end Go.Proofs.Ytmcffhafonemeaa
