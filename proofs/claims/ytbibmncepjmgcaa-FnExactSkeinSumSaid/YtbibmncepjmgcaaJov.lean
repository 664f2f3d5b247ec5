/- Values of Jones: program and model. -/
import Derived.Test.YtbibmncepjmgcaaBkj
import Derived.Test.YtbibmncepjmgcaaBks
import Derived.Test.YtbibmncepjmgcaaWri
namespace Go.Proofs.Ytbibmncepjmgcaa
open Go.RowKit Go.Lib
set_option linter.unusedVariables false
set_option linter.unusedSimpArgs false
/-- The factor of a crossing. -/
def jtw (p base : Int) : Int := (-(pw p base 3)) % p
theorem mul_mod_ex (p a k : Int) : ∃ q, (a * k) % p = a * k + p * q := ⟨-(a * k / p), by rw [Int.emod_def, Int.mul_neg]; omega⟩
theorem pw3_ex (p base : Int) : ∃ q, pw p base 3 = base * base * base + p * q := by
  have h : pw p base 3 = 1 * base % p * base % p * base % p := rfl
  rw [h, Int.one_mul]
  obtain ⟨q1, e1⟩ := mul_mod_ex p 1 base
  rw [Int.one_mul] at e1
  rw [e1]
  obtain ⟨q2, e2⟩ := mul_mod_ex p (base + p * q1) base
  rw [e2]
  obtain ⟨q3, e3⟩ := mul_mod_ex p ((base + p * q1) * base + p * q2) base
  rw [e3]
  refine ⟨q1 * base * base + q2 * base + q3, ?_⟩
  simp only [Int.add_mul, Int.mul_add, Int.mul_assoc]
  omega
theorem jtw_model (p base : Int) (hp : 2 ≤ p) : ((-base * base).tmod p * base) % p = jtw p base := by
  obtain ⟨q, hq⟩ := pw3_ex p base
  unfold jtw
  rw [hq, Int.tmod_def]
  have e1 : (-base * base - p * (-base * base).tdiv p) * base = -(base * base * base) + p * (-((-base * base).tdiv p * base)) := by
    generalize (-base * base).tdiv p = t
    simp only [Int.sub_mul, Int.neg_mul, Int.mul_neg, Int.mul_assoc]
    omega
  have e2 : -(base * base * base + p * q) = -(base * base * base) + p * (-q) := by rw [Int.mul_neg]; omega
  rw [e1, e2, Int.add_mul_emod_self_left, Int.add_mul_emod_self_left]
theorem jtw_rng {p base : Int} (hp : 2 ≤ p) : 0 ≤ jtw p base ∧ jtw p base < p := ⟨Int.emod_nonneg _ (by omega), Int.emod_lt_of_pos _ (by omega)⟩
/-- The value of Jones. -/
def jnV (p c n a b : Int) (xs : List Int) : Int := (bkV p c (brN p c n a b xs) * pw p (jtw p (if wri xs < 0 then a else b)) (wri xs).natAbs) % p
theorem neg_sq_rng {p base : Int} (hp2 : p ≤ 97) (b0 : 0 ≤ base) (b1 : base < p) : -9409 ≤ -base * base ∧ -base * base ≤ 0 := by
  have h1 : base * base ≤ 97 * base := Int.mul_le_mul_of_nonneg_right (by omega) b0
  have h3 : 0 ≤ base * base := Int.mul_nonneg b0 b0
  rw [Int.neg_mul]
  omega
theorem tm_rng {p x : Int} (hp : 2 ≤ p) (hx : x ≤ 0) : -p < x.tmod p ∧ x.tmod p ≤ 0 := by
  have h : x.tmod p = -((-x) % p) := by
    rw [← Int.tmod_eq_emod_of_nonneg (show 0 ≤ -x by omega), Int.neg_tmod, Int.neg_neg]
  rw [h]
  have := Int.emod_nonneg (-x) (show p ≠ 0 by omega)
  have := Int.emod_lt_of_pos (-x) (show 0 < p by omega)
  omega
set_option maxRecDepth 100000 in
set_option maxHeartbeats 4000000 in
theorem jnI_any (a b p c n : Int) (hp : 2 ≤ p) (hp2 : p ≤ 97) (hc0 : 0 ≤ c) (hc1 : c < p) (h2 : 2 ≤ n) (h6 : n ≤ 6) (ha : 0 ≤ a ∧ a < p) (hb : 0 ≤ b ∧ b < p) (q0 : Option Addr) (cap : Nat) (xs : List Int) (hxl : xs.length ≤ 24) (hxs : ∀ x ∈ xs, x ≠ 0 ∧ -n < x ∧ x < n) (w : World) (hR : Rd w q0 xs) :
    Calls Try.prog 53 #[.agg (skv a b p c n), .slice q0 xs.length cap] w fun e w' => e = .returned (.int .i64 (jnV p c n a b xs)) ∧ Below w.heap.size w w' := by
  have hbk := Lib.hid (fun w hR => bktI_any a b p c n hp hp2 hc0 hc1 h2 h6 (by omega) (by omega) q0 cap xs hxl hxs w hR)
  have hwr := Lib.hid (fun w hR => wriI_any q0 cap xs w (by omega) hR)
  have hwb := wri_bd xs
  have hbr := bkS_rng (c := c) hp (brN p c n a b xs) (brN p c n a b xs).length
  have hbd : bkS p c (brN p c n a b xs) (brN p c n a b xs).length = bkV p c (brN p c n a b xs) := rfl
  rw [hbd] at hbr
  obtain ⟨base, hba⟩ : ∃ x, (if wri xs < 0 then a else b) = x := ⟨_, rfl⟩
  have hb0 : 0 ≤ base ∧ base < p := by rw [← hba]; split <;> assumption
  have hp3 := Lib.hid (fun w => (powI_any p base 3 w hp hp2 hb0.1 hb0.2 (by omega)).mono fun e w' h => (show e = .returned (.int .i64 (pw p base 3)) ∧ w' = w from ⟨h.1, h.2.symm⟩))
  rw [show ((3 : Nat) : Int) = 3 from rfl] at hp3
  have r3 := pw_range p base hp 3
  have hrm := Lib.hid (fun w1 => (remI_any p (-(pw p base 3)) w1 hp hp2 (by omega) (by omega)).mono fun e w' h => (show e = .returned (.int .i64 ((-(pw p base 3)) % p)) ∧ w' = w1 from ⟨h.1, h.2.symm⟩))
  have hjt : (-(pw p base 3)) % p = jtw p base := rfl
  rw [hjt] at hrm
  have hjr := jtw_rng (base := base) hp
  obtain ⟨e, he⟩ : ∃ e : Nat, (wri xs).natAbs = e := ⟨_, rfl⟩
  have hpe := Lib.hid (fun w => (powI_any p (jtw p base) e w hp hp2 hjr.1 hjr.2 (by omega)).mono fun e' w' h => (show e' = .returned (.int .i64 (pw p (jtw p base) e)) ∧ w' = w from ⟨h.1, h.2.symm⟩))
  have rpe := pw_range p (jtw p base) hp e
  have hV : jnV p c n a b xs = (bkV p c (brN p c n a b xs) * pw p (jtw p base) e) % p := by unfold jnV; rw [hba, he]
  rw [hV]
  obtain ⟨P3, hP3⟩ : ∃ x, pw p base 3 = x := ⟨_, rfl⟩
  rw [hP3] at hp3 hrm r3
  obtain ⟨T, hT⟩ : ∃ x, jtw p base = x := ⟨_, rfl⟩
  rw [hT] at hrm hpe rpe hjr ⊢
  obtain ⟨Q, hQ⟩ : ∃ x, pw p T e = x := ⟨_, rfl⟩
  rw [hQ] at hpe rpe ⊢
  obtain ⟨B, hB⟩ : ∃ x, bkV p c (brN p c n a b xs) = x := ⟨_, rfl⟩
  rw [hB] at hbk hbr ⊢
  have hm := bnd_mul p B Q 0 hp hp2 hbr.1 hbr.2 rpe.1 rpe.2
  have wM : IntKind.i64.wrap (B * Q) = B * Q := IntWalk.i64_in _ (by omega)
  have tM : (B * Q).tmod p = (B * Q) % p := Int.tmod_eq_emod_of_nonneg hm.1
  have r0 := Int.emod_nonneg (B * Q) (show p ≠ 0 by omega)
  have r1 := Int.emod_lt_of_pos (B * Q) (show 0 < p by omega)
  obtain ⟨Z, hZ⟩ : ∃ Z, (B * Q) % p = Z := ⟨_, rfl⟩
  rw [hZ] at tM r0 r1 ⊢
  have e0 : (p == 0) = false := by simp; omega
  have wR : IntKind.i64.wrap Z = Z := IntWalk.i64_in _ (by omega)
  have wN : IntKind.i64.wrap (-P3) = -P3 := IntWalk.i64_in _ (by omega)
  have hRx := Lib.hid (fun w' (hb : Below w.heap.size w w') => hR.below hb)
  obtain ⟨m, hmm⟩ : ∃ m, xs.length = m := ⟨_, rfl⟩
  rw [hmm] at hbk hwr hwb hxl ⊢
  obtain ⟨v, hv⟩ : ∃ v, wri xs = v := ⟨_, rfl⟩
  rw [hv] at hwr hwb hba he
  have wv : IntKind.i64.wrap (-v) = -v := IntWalk.i64_in _ (by omega)
  have wv0 : IntKind.i64.wrap v = v := IntWalk.i64_in _ (by omega)
  clear hV hP3 hT hQ hB hmm hv hR hxs hbd hjt hc0 hc1
  unfold skv at *
  go_enter Try.func53, Try.ntmps53
  go_upto_region 1 with fail
  have oS : Own (w.alloc (.cells #[.int .i64 a, .int .i64 b, .int .i64 p, .int .i64 c, .int .i64 n, .slice none 0 0] 71)) w.heap.size #[.int .i64 a, .int .i64 b, .int .i64 p, .int .i64 c, .int .i64 n, .slice none 0 0] 71 := Own.new _ _ _
  have b1 : Below w.heap.size w (w.alloc (.cells #[.int .i64 a, .int .i64 b, .int .i64 p, .int .i64 c, .int .i64 n, .slice none 0 0] 71)) := (Below.refl _ w).alloc (Nat.le_refl _) _
  generalize w.alloc (.cells #[.int .i64 a, .int .i64 b, .int .i64 p, .int .i64 c, .int .i64 n, .slice none 0 0] 71) = w1 at *
  refine wp_region_still_lit (by kernel_rfl) (by kernel_rfl) ?_
  have oSd : Own { w1 with drawn := w1.drawn + 1 } w.heap.size #[.int .i64 a, .int .i64 b, .int .i64 p, .int .i64 c, .int .i64 n, .slice none 0 0] 71 := oS
  have bd : Below w.heap.size w { w1 with drawn := w1.drawn + 1 } := b1.drew
  clear oS b1
  generalize ({ w1 with drawn := w1.drawn + 1 } : World) = w3 at *
  have x0 : w3.cell? ⟨w.heap.size, 0, none⟩ = some (.int .i64 a) := oSd.cell 0
  have x1 : w3.cell? ⟨w.heap.size, 1, none⟩ = some (.int .i64 b) := oSd.cell 1
  have x2 : w3.cell? ⟨w.heap.size, 2, none⟩ = some (.int .i64 p) := oSd.cell 2
  have cw := hwr.out w3 (hRx.out _ bd)
  iterate 6 still_step
  still_call cw
  iterate 3 still_step
  refine wpStill_nil ?_
  clear cw
  have hbk' := Lib.hid (hbk.out w3 (hRx.out _ bd))
  by_cases hneg : v < 0
  · rw [if_pos hneg] at hba
    subst hba
    have he2 : (e : Int) = -v := by omega
    rw [he2] at hpe
    clear he he2 hwb
    go_wp2_with (first
      | (go_at_call 59; ((with_reducible refine (hp3.out _).mono ?_); rintro e w5 ⟨rfl, rfl⟩))
      | (go_at_call 59; ((with_reducible refine (hpe.out _).mono ?_); rintro e w5 ⟨rfl, rfl⟩))
      | (go_at_call 89; ((with_reducible refine (hrm.out _).mono ?_); rintro e w5 ⟨rfl, rfl⟩))
      | (refine wpList_load_row rfl 71 _ rfl _ rfl 71 _ (0, 0) _ oSd Try.underlying71 rfl (by kernel_rfl) ?_)
      | (go_at_call 51; ((with_reducible refine (hbk.out _ (hRx.out _ bd)).mono ?_); rintro e' w4 ⟨rfl, hB4⟩; have b4 := bd.trans (hB4.mono bd.size))))
    go_ret
    exact ⟨rfl, b4⟩
  · rw [if_neg hneg] at hba
    subst hba
    have he2 : (e : Int) = v := by omega
    rw [he2] at hpe
    clear he he2 hwb
    go_wp2_with (first
      | (go_at_call 59; ((with_reducible refine (hp3.out _).mono ?_); rintro e w5 ⟨rfl, rfl⟩))
      | (go_at_call 59; ((with_reducible refine (hpe.out _).mono ?_); rintro e w5 ⟨rfl, rfl⟩))
      | (go_at_call 89; ((with_reducible refine (hrm.out _).mono ?_); rintro e w5 ⟨rfl, rfl⟩))
      | (refine wpList_load_row rfl 71 _ rfl _ rfl 71 _ (0, 0) _ oSd Try.underlying71 rfl (by kernel_rfl) ?_)
      | (go_at_call 51; ((with_reducible refine (hbk.out _ (hRx.out _ bd)).mono ?_); rintro e' w4 ⟨rfl, hB4⟩; have b4 := bd.trans (hB4.mono bd.size))))
    go_ret
    exact ⟨rfl, b4⟩
set_option maxRecDepth 100000 in
set_option maxHeartbeats 4000000 in
theorem jnS_any (p a n : Int) (h : baseB p a = true) (h2 : 2 ≤ n) (h6 : n ≤ 6) (q0 : Option Addr) (cap : Nat) (xs : List Int) (hxl : xs.length ≤ 24) (hxs : ∀ x ∈ xs, x ≠ 0 ∧ -n < x ∧ x < n) (w : World) (hR : Rd w q0 xs) :
    Calls Try.prog 52 #[.int .i64 p, .int .i64 a, .int .i64 n, .slice q0 xs.length cap] w fun e w' => e = .returned (.int .i64 (jnV p (lvN p a) n a (rcp p a) xs)) ∧ Below w.heap.size w w' := by
  obtain ⟨hpr, hp, hp2, a1, a2⟩ := baseB_t h
  have hbk := Lib.hid (fun w hR => bktS_any p a n h h2 h6 q0 cap xs hxl hxs w hR)
  have hin := Lib.hid (fun w1 => (invS_any p a w1 hpr a1 a2).mono fun e w' h => (show e = .returned (.int .i64 (rcp p a)) ∧ w' = w1 from ⟨h.1, h.2.symm⟩))
  have hrb := rcp_pos p a hpr a1 a2
  obtain ⟨c, hc⟩ : ∃ c, lvN p a = c := ⟨_, rfl⟩
  obtain ⟨b, hb⟩ : ∃ b, rcp p a = b := ⟨_, rfl⟩
  rw [hc, hb] at hbk ⊢
  rw [hb] at hin hrb
  have hwr := Lib.hid (fun w hR => wriS_any q0 cap xs w (by omega) hR)
  have hwb := wri_bd xs
  have hbr := bkS_rng (c := c) hp (brN p c n a b xs) (brN p c n a b xs).length
  have hbd : bkS p c (brN p c n a b xs) (brN p c n a b xs).length = bkV p c (brN p c n a b xs) := rfl
  rw [hbd] at hbr
  obtain ⟨base, hba⟩ : ∃ x, (if wri xs < 0 then a else b) = x := ⟨_, rfl⟩
  have hb0 : 0 ≤ base ∧ base < p := by rw [← hba]; split <;> omega
  have s1 := neg_sq_rng hp2 hb0.1 hb0.2
  have s2 := tm_rng hp s1.2
  have s3 := jtw_model p base hp
  have hjr := jtw_rng (base := base) hp
  obtain ⟨X, hX⟩ : ∃ x, -base * base = x := ⟨_, rfl⟩
  rw [hX] at s1 s2 s3
  obtain ⟨Y, hY⟩ : ∃ x, X.tmod p = x := ⟨_, rfl⟩
  rw [hY] at s2 s3
  have s4 : -9409 ≤ Y * base ∧ Y * base ≤ 0 := by
    have h1 : -Y * base ≤ 97 * base := Int.mul_le_mul_of_nonneg_right (by omega) hb0.1
    have h2 : 0 ≤ -Y * base := Int.mul_nonneg (by omega) hb0.1
    rw [Int.neg_mul] at h1 h2
    omega
  have hmd := Lib.hid (fun w1 => (modS_any p (Y * base) w1 hp hp2 (by omega) (by omega)).mono fun e w' h => (show e = .returned (.int .i64 ((Y * base) % p)) ∧ w' = w1 from ⟨h.1, h.2.symm⟩))
  rw [s3] at hmd
  obtain ⟨e, he⟩ : ∃ e : Nat, (wri xs).natAbs = e := ⟨_, rfl⟩
  have hpe := Lib.hid (fun w => (powS_any p (jtw p base) e w hp hp2 hjr.1 hjr.2 (by omega)).mono fun e' w' h => (show e' = .returned (.int .i64 (pw p (jtw p base) e)) ∧ w' = w from ⟨h.1, h.2.symm⟩))
  have rpe := pw_range p (jtw p base) hp e
  have hV : jnV p c n a b xs = (bkV p c (brN p c n a b xs) * pw p (jtw p base) e) % p := by unfold jnV; rw [hba, he]
  rw [hV]
  obtain ⟨T, hT⟩ : ∃ x, jtw p base = x := ⟨_, rfl⟩
  rw [hT] at hmd hpe rpe hjr ⊢
  obtain ⟨Q, hQ⟩ : ∃ x, pw p T e = x := ⟨_, rfl⟩
  rw [hQ] at hpe rpe ⊢
  obtain ⟨B, hB⟩ : ∃ x, bkV p c (brN p c n a b xs) = x := ⟨_, rfl⟩
  rw [hB] at hbk hbr ⊢
  have hm := bnd_mul p B Q 0 hp hp2 hbr.1 hbr.2 rpe.1 rpe.2
  have wM : IntKind.i64.wrap (B * Q) = B * Q := IntWalk.i64_in _ (by omega)
  have tM : (B * Q).tmod p = (B * Q) % p := Int.tmod_eq_emod_of_nonneg hm.1
  have r0 := Int.emod_nonneg (B * Q) (show p ≠ 0 by omega)
  have r1 := Int.emod_lt_of_pos (B * Q) (show 0 < p by omega)
  obtain ⟨Z, hZ⟩ : ∃ Z, (B * Q) % p = Z := ⟨_, rfl⟩
  rw [hZ] at tM r0 r1 ⊢
  have e0 : (p == 0) = false := by simp; omega
  have wR : IntKind.i64.wrap Z = Z := IntWalk.i64_in _ (by omega)
  have wN : IntKind.i64.wrap (-base) = -base := IntWalk.i64_in _ (by omega)
  have wX : IntKind.i64.wrap (-base * base) = X := by rw [hX]; exact IntWalk.i64_in _ (by omega)
  have wY : IntKind.i64.wrap Y = Y := IntWalk.i64_in _ (by omega)
  have wYb : IntKind.i64.wrap (Y * base) = Y * base := IntWalk.i64_in _ (by omega)
  have hRx := Lib.hid hR
  obtain ⟨m, hmm⟩ : ∃ m, xs.length = m := ⟨_, rfl⟩
  rw [hmm] at hbk hwr hwb hxl ⊢
  obtain ⟨v, hv⟩ : ∃ v, wri xs = v := ⟨_, rfl⟩
  rw [hv] at hwr hwb hba he
  have wv : IntKind.i64.wrap (-v) = -v := IntWalk.i64_in _ (by omega)
  have wv0 : IntKind.i64.wrap v = v := IntWalk.i64_in _ (by omega)
  clear hV hT hQ hB hmm hv hR hxs hbd h hpr hc hb s3 s4
  by_cases hneg : v < 0
  · rw [if_pos hneg] at hba
    subst hba
    have he2 : (e : Int) = -v := by omega
    rw [he2] at hpe
    clear he he2 hwb
    go_enter Try.func52, Try.ntmps52
    go_wp2_with (first
      | (go_at_call 99; ((with_reducible refine (hwr.out _ hRx.out).mono ?_); rintro e w5 ⟨rfl, rfl⟩))
      | (go_at_call 55; ((with_reducible refine (hin.out _).mono ?_); rintro e w5 ⟨rfl, rfl⟩))
      | (go_at_call 58; ((with_reducible refine (hmd.out _).mono ?_); rintro e w5 ⟨rfl, rfl⟩))
      | (go_at_call 57; ((with_reducible refine (hpe.out _).mono ?_); rintro e w5 ⟨rfl, rfl⟩))
      | (go_at_call 50; ((with_reducible refine (hbk.out _ hRx.out).mono ?_); rintro e' w4 ⟨rfl, hB4⟩)))
    go_ret
    exact ⟨rfl, hB4⟩
  · rw [if_neg hneg] at hba
    subst hba
    have he2 : (e : Int) = v := by omega
    rw [he2] at hpe
    clear he he2 hwb
    go_enter Try.func52, Try.ntmps52
    go_wp2_with (first
      | (go_at_call 99; ((with_reducible refine (hwr.out _ hRx.out).mono ?_); rintro e w5 ⟨rfl, rfl⟩))
      | (go_at_call 55; ((with_reducible refine (hin.out _).mono ?_); rintro e w5 ⟨rfl, rfl⟩))
      | (go_at_call 58; ((with_reducible refine (hmd.out _).mono ?_); rintro e w5 ⟨rfl, rfl⟩))
      | (go_at_call 57; ((with_reducible refine (hpe.out _).mono ?_); rintro e w5 ⟨rfl, rfl⟩))
      | (go_at_call 50; ((with_reducible refine (hbk.out _ hRx.out).mono ?_); rintro e' w4 ⟨rfl, hB4⟩)))
    go_ret
    exact ⟨rfl, hB4⟩
end Go.Proofs.Ytbibmncepjmgcaa
