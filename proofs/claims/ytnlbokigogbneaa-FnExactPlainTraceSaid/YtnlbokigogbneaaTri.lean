/- Traces on words of spins: the program. -/
import Derived.Test.YtnlbokigogbneaaSei
import Derived.Test.YtnlbokigogbneaaTrm
namespace Go.Proofs.Ytnlbokigogbneaa
open Go.RowKit
set_option linter.unusedVariables false
set_option maxRecDepth 100000 in
theorem pwtI_any (p k : Int) (n : Nat) (w : World) (hp : 2 ≤ p) (hp2 : p ≤ 97) (hk0 : -97 ≤ k) (hk1 : k ≤ 97) (hn : n ≤ 1000) :
    Calls Try.prog 58 #[.int .i64 p, .int .i64 k, .int .i64 n] w fun e w' => e = .returned (.int .i64 (pwt p k n)) ∧ w = w' := by
  have e0 : (p == 0) = false := by simp; omega
  have hr := Lib.hid (pwt_bd p k hp)
  go_enter Try.func58, Try.ntmps58
  go_wp2
  go_loopw [7, 9] (fun v i wr => ∃ j : Nat, j ≤ n ∧ i = .int .i64 j ∧ v = .int .i64 (pwt p k j) ∧ wr = w) (fun _ i _ => ((n : Int) - intOf i).toNat)
  case atStart => exact ⟨0, by omega, rfl, rfl, rfl⟩
  case round =>
    obtain ⟨j, hj, rfl, rfl, rfl⟩ := hrel
    by_cases hlt : j < n
    · have r := hr.out j
      have r2 := hr.out (j + 1)
      have hx : Hid (pwt p k (j + 1) = (pwt p k j * k).tmod p) := Lib.hid rfl
      rw [hx.out] at r2
      have m1 : pwt p k j * k ≤ 97 * 97 ∧ -(97 * 97) ≤ pwt p k j * k := by
        generalize pwt p k j = x at *
        have h1 := Int.mul_le_mul_of_nonneg_left (show k ≤ 97 by omega) (show 0 ≤ x + 97 by omega)
        have h2 := Int.mul_le_mul_of_nonneg_left (show -97 ≤ k by omega) (show 0 ≤ x + 97 by omega)
        have h3 := Int.mul_le_mul_of_nonneg_left (show k ≤ 97 by omega) (show 0 ≤ 97 - x by omega)
        have h4 := Int.mul_le_mul_of_nonneg_left (show -97 ≤ k by omega) (show 0 ≤ 97 - x by omega)
        simp only [Int.add_mul, Int.sub_mul] at h1 h2 h3 h4
        omega
      generalize pwt p k j = x at *
      have e1 : IntKind.i64.wrap (x * k) = x * k := IntWalk.i64_in _ (by omega)
      have e2 : IntKind.i64.wrap ((x * k).tmod p) = (x * k).tmod p := IntWalk.i64_in _ (by omega)
      go_wp2
      go_roundw
      case rel => exact ⟨j + 1, by omega, by go_num, by rw [hx.out], trivial⟩
      case measure => simp [intOf]; omega
    · obtain rfl : j = n := by omega
      go_wp2
      go_ret
      exact ⟨rfl, rfl⟩
def pA (x : Int) : Int := IntKind.u64.wrap (bits .and .u64 (x / 2) 6148914691236517205 + bits .and .u64 x 6148914691236517205)
def pB (x : Int) : Int := IntKind.u64.wrap (bits .and .u64 (x / 4) 3689348814741910323 + bits .and .u64 x 3689348814741910323)
def pC (x : Int) : Int := bits .and .u64 (IntKind.u64.wrap (x / 16 + x)) 1085102592571150095
def pD (x : Int) : Int := IntKind.u64.wrap (x + x / 256)
def pE (x : Int) : Int := IntKind.u64.wrap (x + x / 65536)
def pF (x : Int) : Int := IntKind.u64.wrap (x + x / 4294967296)
def pG (x : Int) : Int := bits .and .i64 (wrap64 x) 127
def popI (u : Int) : Int := pG (pF (pE (pD (pC (pB (pA u))))))
theorem pop_ones : ∀ u : Nat, u < 64 → popI (u : Int) = (ones u : Nat) := by decide +kernel
set_option maxRecDepth 100000 in
theorem onesI_any (u : Nat) (h : u < 64) (w : World) : Calls Try.prog 57 #[.int .i64 u] w fun e w' => e = .returned (.int .i64 (ones u : Nat)) ∧ w' = w := by
  have hc := Lib.hid (show ∀ w : World, Calls Try.prog 69 #[.int .u64 u] w fun e w' => e = .returned (.int .i64 (ones u : Nat)) ∧ w' = w from fun w => by
    rw [← pop_ones u h]
    go_enter Try.func69, Try.ntmps69
    go_wp2
    go_ret
    exact ⟨rfl, rfl⟩)
  go_enter Try.func57, Try.ntmps57
  go_wp2_with (first
    | (go_at_call 69; ((with_reducible refine (hc.out _).mono ?_); rintro e w1 ⟨rfl, rfl⟩)))
  go_ret
  exact ⟨rfl, rfl⟩
theorem pow64 (N : Nat) (h : N < 7) : 2 ^ N ≤ 64 := Nat.le_trans (Nat.pow_le_pow_right (by omega) (show N ≤ 6 by omega)) (by decide)
theorem ones_le (n : Nat) (hn : n < 7) (u : Nat) (h : u < 2 ^ n) : ones u ≤ n := by rw [← ones_cnt n hn u h]; exact cnt_le _ _ _
set_option maxRecDepth 100000 in
set_option maxHeartbeats 4000000 in
theorem traI_any (p q r z o : Int) (hp : 2 ≤ p) (hp2 : p ≤ 97) (q0 : 0 ≤ q) (q1 : q ≤ 97) (r0 : 0 ≤ r) (r1 : r ≤ 97) (z0 : -97 ≤ z) (z1 : z ≤ 97) (o0 : -97 ≤ o) (o1 : o ≤ 97) (n : Nat) (hn : n < 7) (ms : List Int) (hms : ms.length = 16) (hb : Bytes ms) (hd : IsS n ms) (w : World) :
    Calls Try.prog 43 #[.agg (spc p q r), .agg (dcells n ms), .int .i64 z, .int .i64 o] w fun e w' => e = .returned (.int .i64 (trI p z o n (fun u => entN p q r n ms u u) (2 ^ n) % p)) ∧ Below w.heap.size w w' := by
  have hl := Lib.hid hms
  have hcs := Lib.hid (fun w => cswI_any (n : Int) w (by omega) (by omega))
  have hen := Lib.hid (show ∀ u : Nat, u < 2 ^ n → ∀ w, Calls Try.prog 35 #[.agg (spc p q r), .agg (dcells n ms), .int .i64 u, .int .i64 u] w fun e w' => e = .returned (.int .i64 (entN p q r n ms u u)) ∧ Below w.heap.size w w' from fun u hu w => by
    have e : (2 : Int) ^ (n : Int).toNat = ((2 ^ n : Nat) : Int) := by rw [Int.toNat_natCast]; push_cast; rfl
    exact entI_any p q r hp hp2 q0 q1 r0 r1 n ms hms hb hd u u (by omega) (by rw [e]; omega) (by omega) (by rw [e]; omega) w)
  have hbd := Lib.hid (show ∀ u : Nat, 0 ≤ entN p q r n ms u u ∧ entN p q r n ms u u < p from fun u => ent_bd p q r n ms u u hp)
  have h64 := pow64 n hn
  have hol := Lib.hid (ones_le n hn)
  rw [show (2 : Int) ^ (n : Int).toNat = ((2 ^ n : Nat) : Int) by rw [Int.toNat_natCast]; push_cast; rfl] at hcs
  obtain ⟨E, hE⟩ : ∃ E : Nat → Int, (fun u : Nat => entN p q r n ms u u) = E := ⟨_, rfl⟩
  have hE' : ∀ u : Nat, entN p q r n ms u u = E u := fun u => by rw [← hE]
  rw [hE]
  simp only [hE'] at hen hbd
  have hT := Lib.hid (trI_bd p z o n E hp hp2 hbd.out)
  obtain ⟨M, hM⟩ : ∃ M : Nat, 2 ^ n = M := ⟨_, rfl⟩
  rw [hM] at hen h64 hol hcs ⊢
  have c0 := dcells_zero n ms
  clear hms hb hd hE hE' hM
  go_enter Try.func43, Try.ntmps43
  go_wp2_with (first
    | (go_at_call 48; ((with_reducible refine (hcs.out _).mono ?_); rintro e w1 ⟨rfl, hw1⟩)))
  subst hw1
  have hOs : Own ((w.alloc (.cells (spc p q r) 43)).alloc (.cells (dcells n ms) 29)) w.heap.size (spc p q r) 43 := Own.alloc (Own.new _ _ _) _
  have hOd : Own ((w.alloc (.cells (spc p q r) 43)).alloc (.cells (dcells n ms) 29)) (w.heap.size + 1) (dcells n ms) 29 := Own.at _ _ _ (by simp)
  have hBa : Below w.heap.size w ((w.alloc (.cells (spc p q r) 43)).alloc (.cells (dcells n ms) 29)) := ((Below.refl _ _).alloc (Nat.le_refl _) _).alloc (by simp) _
  go_loopw [9, 16] (fun t i wr => ∃ k : Nat, k ≤ M ∧ i = .int .i64 k ∧ t = .int .i64 (trI p z o n E k) ∧ Own wr w.heap.size (spc p q r) 43 ∧ Own wr (w.heap.size + 1) (dcells n ms) 29 ∧ Below w.heap.size w wr) (fun _ i _ => (M - intOf i).toNat)
  case atStart => exact ⟨0, by omega, rfl, rfl, hOs, hOd, hBa⟩
  case round =>
    clear hOs hOd hBa
    obtain ⟨k, hk, rfl, rfl, hS, hO, hB⟩ := hrel
    have t0 := hT.out k
    by_cases hlt : k < M
    · have t1 := hT.out (k + 1)
      have hek := Lib.hid (hen.out k hlt)
      have hbk := hbd.out k
      have hon := Lib.hid (fun w => onesI_any k (by omega) w)
      have hole := hol.out k hlt
      have hst : Hid (trI p z o n E (k + 1) = trI p z o n E k + E k * (pwt p z (n - ones k) * pwt p o (ones k))) := Lib.hid rfl
      have hpz := Lib.hid (fun w1 => (pwtI_any p z (n - ones k) w1 hp hp2 z0 z1 (by omega)).mono fun e w' h => (show e = .returned (.int .i64 (pwt p z (n - ones k))) ∧ w' = w1 from ⟨h.1, h.2.symm⟩))
      have hpo := Lib.hid (fun w1 => (pwtI_any p o (ones k) w1 hp hp2 o0 o1 (by omega)).mono fun e w' h => (show e = .returned (.int .i64 (pwt p o (ones k))) ∧ w' = w1 from ⟨h.1, h.2.symm⟩))
      have a := pwt_bd p z hp (n - ones k)
      have b := pwt_bd p o hp (ones k)
      obtain ⟨j, hj⟩ : ∃ j, ones k = j := ⟨_, rfl⟩
      rw [hj] at hon hole hst hpz hpo a b
      obtain ⟨x, hx⟩ : ∃ x, pwt p z (n - j) = x := ⟨_, rfl⟩
      rw [hx] at hst hpz a
      obtain ⟨y, hy⟩ : ∃ y, pwt p o j = y := ⟨_, rfl⟩
      rw [hy] at hst hpo b
      obtain ⟨T, hTk⟩ : ∃ T, trI p z o n E k = T := ⟨_, rfl⟩
      rw [hTk] at hst t0 ⊢
      obtain ⟨T', hTk'⟩ : ∃ T', trI p z o n E (k + 1) = T' := ⟨_, rfl⟩
      rw [hTk'] at hst t1
      have hTT := Lib.hid hTk'
      obtain ⟨ek, hekk⟩ : ∃ ek, E k = ek := ⟨_, rfl⟩
      rw [hekk] at hst hek hbk
      have m1 : x * y ≤ 97 * 97 ∧ -(97 * 97) ≤ x * y := by
        have h1 := Int.mul_le_mul_of_nonneg_left (show y ≤ 97 by omega) (show 0 ≤ x + 97 by omega)
        have h2 := Int.mul_le_mul_of_nonneg_left (show -97 ≤ y by omega) (show 0 ≤ x + 97 by omega)
        have h3 := Int.mul_le_mul_of_nonneg_left (show y ≤ 97 by omega) (show 0 ≤ 97 - x by omega)
        have h4 := Int.mul_le_mul_of_nonneg_left (show -97 ≤ y by omega) (show 0 ≤ 97 - x by omega)
        simp only [Int.add_mul, Int.sub_mul] at h1 h2 h3 h4
        omega
      have w1 : IntKind.i64.wrap (x * y) = x * y := IntWalk.i64_in _ (by omega)
      obtain ⟨t, ht⟩ : ∃ t, x * y = t := ⟨_, rfl⟩
      rw [ht] at hst m1 w1
      have m2 : ek * t ≤ 97 * 9409 ∧ -(97 * 9409) ≤ ek * t := by
        have h1 := Int.mul_le_mul_of_nonneg_left (show t ≤ 9409 by omega) hbk.1
        have h2 := Int.mul_le_mul_of_nonneg_left (show -9409 ≤ t by omega) hbk.1
        omega
      have w2 : IntKind.i64.wrap (ek * t) = ek * t := IntWalk.i64_in _ (by omega)
      have w3 : IntKind.i64.wrap (T + ek * t) = T + ek * t := IntWalk.i64_in _ (by omega)
      have hnj : (n : Int) - (j : Int) = ((n - j : Nat) : Int) := by omega
      have w4 : IntKind.i64.wrap ((n : Int) - (j : Int)) = ((n - j : Nat) : Int) := by rw [hnj]; exact IntWalk.i64_in _ (by omega)
      have kI : (k : Int) < (M : Int) := by omega
      clear hj hx hy hTk hTk' hekk a b hen hbd hol m1 hnj
      go_upto_region 6 with (first
        | (go_at_call 57; ((with_reducible refine (hon.out _).mono ?_); rintro e1 wc ⟨rfl, rfl⟩)))
      refine wp_region_st (fun x => Own x w.heap.size (spc p q r) 43 ∧ Own x (w.heap.size + 1) (dcells n ms) 29) [(true, 0), (true, 1), (true, 2), (true, 3), (true, 4), (true, 5), (true, 6), (true, 8), (true, 9), (true, 10), (true, 11), (false, 7), (false, 12)] 13 (by kernel_rfl) (by kernel_rfl) ⟨hS.drewN 1, hO.drewN 1⟩ ?_
      have hSd : Own { wc with drawn := wc.drawn + 1 } w.heap.size (spc p q r) 43 := hS
      have hOd : Own { wc with drawn := wc.drawn + 1 } (w.heap.size + 1) (dcells n ms) 29 := hO
      have hBd : Below w.heap.size w { wc with drawn := wc.drawn + 1 } := hB.drew
      clear hS hO hB
      generalize ({ wc with drawn := wc.drawn + 1 } : World) = w3 at *
      simp only [List.map_cons, List.map_nil, opS'_mk, opN_zero, opN_succ, List.drop_succ_cons, List.drop_zero]
      (apply wpSt_read; · (intro wd hS K hK; clear hS; go_simp; exact hK))
      (apply wpSt_read; · (intro wd hS K hK; obtain ⟨d0, _, _⟩ := spc_own hS.1; clear hS; go_simp; exact hK))
      (apply wpSt_read; · (intro wd hS K hK; clear hS; go_simp; exact hK))
      (apply wpSt_read; · (intro wd hS K hK; clear hS; go_simp; exact hK))
      (apply wpSt_read; · (intro wd hS K hK; have d0 := (hS.2.cell 0).trans c0; clear hS; go_simp; exact hK))
      (apply wpSt_read; · (intro wd hS K hK; clear hS; go_simp; exact hK))
      (apply wpSt_read; · (intro wd hS K hK; clear hS; go_simp; exact hK))
      (apply wpSt_read; · (intro wd hS K hK; clear hS; go_simp; exact hK))
      (apply wpSt_read; · (intro wd hS K hK; obtain ⟨d0, _, _⟩ := spc_own hS.1; clear hS; go_simp; exact hK))
      (apply wpSt_read; · (intro wd hS K hK; clear hS; go_simp; exact hK))
      (apply wpSt_read; · (intro wd hS K hK; clear hS; go_simp; exact hK))
      refine wpSt_keep (fun K hK => ?_)
      go_wp2_with (first
        | (go_at_call 58; ((with_reducible refine (hpz.out _).mono ?_); rintro e w4 ⟨rfl, rfl⟩)))
      refine hK _ _ ⟨hSd, hOd⟩ rfl ?_
      clear hK K
      refine wpSt_keep (fun K hK => ?_)
      go_wp2_with (first
        | (go_at_call 58; ((with_reducible refine (hpo.out _).mono ?_); rintro e w5 ⟨rfl, rfl⟩)))
      refine hK _ _ ⟨hSd, hOd⟩ rfl ?_
      clear hK K
      refine wpSt_nil ?_
      go_wp2_with (first
        | (refine wpList_load_row rfl 43 _ rfl _ rfl 43 _ (0, 0) _ hSd Try.underlying43 rfl (rowSp p q r) ?_)
        | (refine wpList_load_row rfl 29 _ rfl _ rfl 29 _ (0, 0) _ (hOd) Try.underlying29 rfl (row26 (d17 _ _ (hl.out))) ?_)
        | (go_at_call 35; ((with_reducible refine (hek.out _).mono ?_); rintro e w6 ⟨rfl, hB6⟩)))
      have hS6 := hSd.below hB6 hSd.lt
      have hO6 := hOd.below hB6 hOd.lt
      have b6 : Below w.heap.size w w6 := hBd.trans (hB6.mono hBd.size)
      go_roundw
      case rel => exact ⟨k + 1, by omega, by go_num, by rw [hTT.out, hst.out], hS6, hO6, b6⟩
      case measure => simp [intOf]; omega
    · have e : k = M := by omega
      subst e
      have hm := Lib.hid (fun w1 => (remI_any p (trI p z o n E k) w1 hp hp2 (by omega) (by omega)).mono fun e w' h => (show e = .returned (.int .i64 (trI p z o n E k % p)) ∧ w' = w1 from ⟨h.1, h.2.symm⟩))
      obtain ⟨d0, _, _⟩ := spc_own hS
      obtain ⟨T, hTT⟩ : ∃ T, trI p z o n E k = T := ⟨_, rfl⟩
      rw [hTT] at hm t0 ⊢
      have hTT' := Lib.hid hTT
      clear hS hO hTT
      go_wp2_with (first
        | (go_at_call 46; ((with_reducible refine (hm.out _).mono ?_); rintro e7 w7 ⟨rfl, rfl⟩)))
      go_ret
      exact ⟨by rw [hTT'.out]; rfl, hB⟩
end Go.Proofs.Ytnlbokigogbneaa
