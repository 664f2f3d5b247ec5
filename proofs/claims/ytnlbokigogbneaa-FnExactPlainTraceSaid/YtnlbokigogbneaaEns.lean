/- The entry of a diagram at two words: the model's walk. -/
import Derived.Test.YtnlbokigogbneaaEnt
namespace Go.Proofs.Ytnlbokigogbneaa
open Go.RowKit
set_option linter.unusedVariables false
theorem rem_of (x y p : Int) (p0 : 0 < p) (p1 : p ≤ 97) (h : 0 ≤ x * y) : (x * y).tmod p = x * y % p ∧ 0 ≤ x * y % p ∧ x * y % p < p :=
  ⟨Int.tmod_eq_emod_of_nonneg h, Int.emod_nonneg _ (by omega), Int.emod_lt_of_pos _ p0⟩
set_option maxRecDepth 100000 in
set_option maxHeartbeats 4000000 in
theorem entS_any (p q r : Int) (hp : 2 ≤ p) (hp2 : p ≤ 97) (q0 : 0 ≤ q) (q1 : q ≤ 97) (r0 : 0 ≤ r) (r1 : r ≤ 97) (n : Int) (ms : List Int) (hms : ms.length = 16) (hb : Bytes ms) (hd : IsS n ms) (u v : Int) (u0 : 0 ≤ u) (u1 : u ≤ 65536) (v0 : 0 ≤ v) (v1 : v ≤ 65536) (w : World) :
    Calls Try.prog 30 #[.int .i64 p, .int .i64 q, .int .i64 r, .agg (dcells n ms), .int .i64 u, .int .i64 v] w fun e w' => e = .returned (.int .i64 (entN p q r n ms u v)) ∧ Below w.heap.size w w' := by
  have hl := Lib.hid hms
  have hN := Net.of hb hd
  have hmt := Lib.hid (show ∀ p : Int, 0 ≤ p → p < 2 * n → 0 ≤ mate ms p ∧ mate ms p < 2 * n from fun p h0 h2 => by
    have b := pl_lt n p h0 h2
    have m := hN.mt (pl n p) b.1 b.2
    rw [pl_pl n p h0 h2] at m
    have q := hN.lt (pl n p) b.1 b.2
    rw [m]; exact pl_lt n _ q.1 q.2.1)
  obtain ⟨h1, h8⟩ := hd.1
  obtain ⟨A, hA⟩ : ∃ A, entN p q r n ms u v = A := ⟨_, rfl⟩
  rw [hA]
  unfold entN at hA
  have hlv := Lib.hid (show ∀ i : Int, 0 ≤ i → i < 2 * n → ∀ w, Calls Try.prog 47 #[.int .i64 v, .int .i64 n, .int .i64 (i - n)] w fun e w' => e = .returned (.int .i64 (ltr v (2 * n - 1 - i))) ∧ w' = w from fun i i0 i1 w => by
    have := letS_any v n (i - n) (2 * n - 1 - i).toNat (by omega) (by omega) (by omega) (by omega) v0 v1 w
    rw [show ((2 * n - 1 - i).toNat : Int) = 2 * n - 1 - i by omega] at this
    exact this)
  have hlu := Lib.hid (show ∀ i : Int, 0 ≤ i → i < n → ∀ w, Calls Try.prog 47 #[.int .i64 u, .int .i64 n, .int .i64 i] w fun e w' => e = .returned (.int .i64 (ltr u (n - 1 - i))) ∧ w' = w from fun i i0 i1 w => by
    have := letS_any u n i (n - 1 - i).toNat (by omega) (by omega) (by omega) (by omega) u0 u1 w
    rw [show ((n - 1 - i).toNat : Int) = n - 1 - i by omega] at this
    exact this)
  have c0 := dcells_zero n ms
  clear hms hb hd hN
  go_enter Try.func30, Try.ntmps30
  go_wp2
  have hOd : Own (w.alloc (.cells (dcells n ms) 29)) w.heap.size (dcells n ms) 29 := Own.new _ _ _
  have hBa : Below w.heap.size w (w.alloc (.cells (dcells n ms) 29)) := (Below.refl _ _).alloc (Nat.le_refl _) _
  clear c0
  go_loopw [14, 15] (fun e i wr => ∃ (k : Nat) (x : Int), (k : Int) ≤ 2 * n ∧ i = .int .i64 k ∧ e = .int .i64 x ∧ 0 ≤ x ∧ x ≤ p ∧ Hid (enW (stpM p q r) p n ms u v ((2 * n).toNat - k) k x = A) ∧ Own wr w.heap.size (dcells n ms) 29 ∧ Below w.heap.size w wr) (fun _ i _ => (2 * n - intOf i).toNat)
  case atStart => exact ⟨0, 1, by omega, rfl, rfl, by omega, by omega, Lib.hid hA, hOd, hBa⟩
  case round =>
    clear hOd hBa hA
    obtain ⟨k, x, hk, rfl, rfl, xb0, xb1, hW, hO, hB⟩ := hrel
    by_cases hlt : (k : Int) < 2 * n
    · have hk16 : (k : Int) < 16 := by omega
      obtain ⟨f, hf⟩ : ∃ f : Nat, (2 * n).toNat - k = f + 1 := ⟨(2 * n).toNat - k - 1, by omega⟩
      have hf' : f = (2 * n).toNat - (k + 1) := by omega
      have hkk : (k : Int) + 1 = ((k + 1 : Nat) : Int) := by omega
      have c1 := hO.cell (1 + k)
      rw [dcells_get n ms k (by rw [hl.out]; omega)] at c1
      have hm0 := hmt.out k (by omega) hlt
      have hvk := Lib.hid (hlv.out k (by omega) hlt)
      have hvy := Lib.hid (hlv.out (mate ms k) hm0.1 hm0.2)
      have huk := Lib.hid (hlu.out k (by omega))
      have huy := Lib.hid (hlu.out (mate ms k) hm0.1)
      have bk := ptl_bit n u v k
      have eS := Lib.hid (enW_skip (stpM p q r) p n ms u v _ f x hf k _ hkk)
      have eT := Lib.hid (enW_thru (stpM p q r) p n ms u v _ f x hf k _ hkk)
      have eT0 := Lib.hid (enW_thru0 (stpM p q r) p n ms u v _ f x hf k)
      have eN := Lib.hid (enW_not (stpM p q r) p n ms u v _ f x hf k _ hkk)
      have eN0 := Lib.hid (enW_not0 (stpM p q r) p n ms u v _ f x hf k)
      have ey : mate ms k = ms.getD k 0 := by unfold mate; rw [Int.toNat_natCast]
      rw [hf'] at eS eT eN
      rw [← ey] at c1
      obtain ⟨y, hy⟩ : ∃ y, mate ms k = y := ⟨_, rfl⟩
      rw [hy] at c1 hm0 hvy huy eS eT eT0 eN eN0
      have pa : ptl n u v k = if (k : Int) < n then ltr u (n - 1 - k) else ltr v (2 * n - 1 - k) := rfl
      have pb : ptl n u v y = if y < n then ltr u (n - 1 - y) else ltr v (2 * n - 1 - y) := rfl
      obtain ⟨a, ha⟩ : ∃ a, ptl n u v k = a := ⟨_, rfl⟩
      obtain ⟨b, hb⟩ : ∃ b, ptl n u v y = b := ⟨_, rfl⟩
      rw [ha] at bk eT eT0 eN eN0 pa
      rw [hb] at eT eT0 eN eN0 pb
      obtain ⟨va, hva⟩ : ∃ z, ltr v (2 * n - 1 - k) = z := ⟨_, rfl⟩
      obtain ⟨vb, hvb⟩ : ∃ z, ltr v (2 * n - 1 - y) = z := ⟨_, rfl⟩
      obtain ⟨ua, hua⟩ : ∃ z, ltr u (n - 1 - k) = z := ⟨_, rfl⟩
      obtain ⟨ub, hub⟩ : ∃ z, ltr u (n - 1 - y) = z := ⟨_, rfl⟩
      rw [hva] at hvk pa
      rw [hvb] at hvy pb
      rw [hua] at huk pa
      rw [hub] at huy pb
      obtain ⟨hy0, hy1⟩ := hm0
      clear ey hy ha hb hf hf' hkk hva hvb hua hub
      by_cases hyk : y < (k : Int)
      · have e1 := Lib.hid ((eS.out hyk).symm.trans hW.out)
        clear eS eT eT0 eN eN0 hW hvk hvy huk huy pa pb
        go_wp2
        go_roundw
        case rel => exact ⟨k + 1, x, by omega, by go_num, rfl, xb0, xb1, e1, hO, hB⟩
        case measure => simp [intOf]; omega
      · by_cases hkn : (k : Int) < n
        · rw [if_pos hkn] at pa
          subst pa
          have hk' := Lib.hid (huk.out hkn)
          by_cases hyn : y < n
          · rw [if_pos hyn] at pb
            subst pb
            have hy' := Lib.hid (huy.out hyn)
            have hth : ¬ ((k : Int) < n ∧ n ≤ y) := by omega
            have t3 : decide (n ≤ y) = false := by simp; omega
            by_cases hab : a = b
            · have e1 := Lib.hid ((eN0.out hyk hth hab).symm.trans hW.out)
              subst hab
              clear eS eT eT0 eN eN0 hW
              go_wp2_with (first
                | (go_at_call 47; ((with_reducible refine (hvk.out _).mono ?_); rintro e1 w1 ⟨rfl, rfl⟩))
                | (go_at_call 47; ((with_reducible refine (hvy.out _).mono ?_); rintro e1 w2 ⟨rfl, rfl⟩))
                | (go_at_call 47; ((with_reducible refine (hk'.out _).mono ?_); rintro e1 w3 ⟨rfl, rfl⟩))
                | (go_at_call 47; ((with_reducible refine (hy'.out _).mono ?_); rintro e1 w4 ⟨rfl, rfl⟩)))
              go_ret
              exact ⟨by rw [← e1.out]; rfl, hB⟩
            · have hba : (a == b) = false := by simpa using hab
              have e0 := (eN.out hyk hth hab).symm.trans hW.out
              rw [show decide (y < n) = true by simp; omega] at e0
              clear eS eT eT0 eN eN0 hW
              rcases bk with rfl | rfl
              · have e1 := Lib.hid e0
                clear e0
                rw [show stpM p q r true 0 x = p - x from rfl] at e1
                go_wp2_with (first
                  | (go_at_call 47; ((with_reducible refine (hvk.out _).mono ?_); rintro e1 w1 ⟨rfl, rfl⟩))
                  | (go_at_call 47; ((with_reducible refine (hvy.out _).mono ?_); rintro e1 w2 ⟨rfl, rfl⟩))
                  | (go_at_call 47; ((with_reducible refine (hk'.out _).mono ?_); rintro e1 w3 ⟨rfl, rfl⟩))
                  | (go_at_call 47; ((with_reducible refine (hy'.out _).mono ?_); rintro e1 w4 ⟨rfl, rfl⟩)))
                go_roundw
                case rel => exact ⟨k + 1, p - x, by omega, by go_num, rfl, by omega, by omega, e1, hO, hB⟩
                case measure => simp [intOf]; omega
              · have e1 := Lib.hid e0
                clear e0
                have mb := mul_bd x q xb0 (by omega) (by omega) (by omega)
                have m0 : 0 ≤ x * q := Int.mul_nonneg xb0 (by omega)
                have rm := rem_of x q p (by omega) hp2 m0
                rw [show stpM p q r true 1 x = x * q % p from rfl] at e1
                obtain ⟨z, hz⟩ : ∃ z, x * q % p = z := ⟨_, rfl⟩
                rw [hz] at rm e1
                obtain ⟨rm1, rm2, rm3⟩ := rm
                obtain ⟨mb1, mb2⟩ := mb
                have e5 : (p == 0) = false := by simp; omega
                go_wp2_with (first
                  | (go_at_call 47; ((with_reducible refine (hvk.out _).mono ?_); rintro e1 w1 ⟨rfl, rfl⟩))
                  | (go_at_call 47; ((with_reducible refine (hvy.out _).mono ?_); rintro e1 w2 ⟨rfl, rfl⟩))
                  | (go_at_call 47; ((with_reducible refine (hk'.out _).mono ?_); rintro e1 w3 ⟨rfl, rfl⟩))
                  | (go_at_call 47; ((with_reducible refine (hy'.out _).mono ?_); rintro e1 w4 ⟨rfl, rfl⟩)))
                go_roundw
                case rel => exact ⟨k + 1, z, by omega, by go_num, rfl, rm2, by omega, e1, hO, hB⟩
                case measure => simp [intOf]; omega
          · rw [if_neg hyn] at pb
            subst pb
            have hth : (k : Int) < n ∧ n ≤ y := by omega
            have t3 : decide (n ≤ y) = true := by simp; omega
            by_cases hab : a = b
            · have e1 := Lib.hid ((eT.out hyk hth hab).symm.trans hW.out)
              subst hab
              clear eS eT eT0 eN eN0 hW
              go_wp2_with (first
                | (go_at_call 47; ((with_reducible refine (hvk.out _).mono ?_); rintro e1 w1 ⟨rfl, rfl⟩))
                | (go_at_call 47; ((with_reducible refine (hvy.out _).mono ?_); rintro e1 w2 ⟨rfl, rfl⟩))
                | (go_at_call 47; ((with_reducible refine (hk'.out _).mono ?_); rintro e1 w3 ⟨rfl, rfl⟩)))
              go_roundw
              case rel => exact ⟨k + 1, x, by omega, by go_num, rfl, xb0, xb1, e1, hO, hB⟩
              case measure => simp [intOf]; omega
            · have hba : (a == b) = false := by simpa using hab
              have e1 := Lib.hid ((eT0.out hyk hth hab).symm.trans hW.out)
              clear eS eT eT0 eN eN0 hW
              go_wp2_with (first
                | (go_at_call 47; ((with_reducible refine (hvk.out _).mono ?_); rintro e1 w1 ⟨rfl, rfl⟩))
                | (go_at_call 47; ((with_reducible refine (hvy.out _).mono ?_); rintro e1 w2 ⟨rfl, rfl⟩))
                | (go_at_call 47; ((with_reducible refine (hk'.out _).mono ?_); rintro e1 w3 ⟨rfl, rfl⟩)))
              go_ret
              exact ⟨by rw [← e1.out]; rfl, hB⟩
        · rw [if_neg hkn] at pa
          subst pa
          have hyn : ¬ y < n := by omega
          rw [if_neg hyn] at pb
          subst pb
          have hth : ¬ ((k : Int) < n ∧ n ≤ y) := by omega
          by_cases hab : a = b
          · have e1 := Lib.hid ((eN0.out hyk hth hab).symm.trans hW.out)
            subst hab
            clear eS eT eT0 eN eN0 hW
            go_wp2_with (first
              | (go_at_call 47; ((with_reducible refine (hvk.out _).mono ?_); rintro e1 w1 ⟨rfl, rfl⟩))
              | (go_at_call 47; ((with_reducible refine (hvy.out _).mono ?_); rintro e1 w2 ⟨rfl, rfl⟩)))
            go_ret
            exact ⟨by rw [← e1.out]; rfl, hB⟩
          · have hba : (a == b) = false := by simpa using hab
            have e0 := (eN.out hyk hth hab).symm.trans hW.out
            rw [show decide (y < n) = false by simp; omega] at e0
            clear eS eT eT0 eN eN0 hW
            rcases bk with rfl | rfl
            · have e1 := Lib.hid e0
              clear e0
              have mb := mul_bd x r xb0 (by omega) (by omega) (by omega)
              have m0 : 0 ≤ x * r := Int.mul_nonneg xb0 (by omega)
              have rm := rem_of x r p (by omega) hp2 m0
              rw [show stpM p q r false 0 x = x * r % p from rfl] at e1
              obtain ⟨z, hz⟩ : ∃ z, x * r % p = z := ⟨_, rfl⟩
              rw [hz] at rm e1
              obtain ⟨rm1, rm2, rm3⟩ := rm
              obtain ⟨mb1, mb2⟩ := mb
              have e5 : (p == 0) = false := by simp; omega
              go_wp2_with (first
                | (go_at_call 47; ((with_reducible refine (hvk.out _).mono ?_); rintro e1 w1 ⟨rfl, rfl⟩))
                | (go_at_call 47; ((with_reducible refine (hvy.out _).mono ?_); rintro e1 w2 ⟨rfl, rfl⟩)))
              go_roundw
              case rel => exact ⟨k + 1, z, by omega, by go_num, rfl, rm2, by omega, e1, hO, hB⟩
              case measure => simp [intOf]; omega
            · have e1 := Lib.hid e0
              clear e0
              rw [show stpM p q r false 1 x = p - x from rfl] at e1
              go_wp2_with (first
                | (go_at_call 47; ((with_reducible refine (hvk.out _).mono ?_); rintro e1 w1 ⟨rfl, rfl⟩))
                | (go_at_call 47; ((with_reducible refine (hvy.out _).mono ?_); rintro e1 w2 ⟨rfl, rfl⟩)))
              go_roundw
              case rel => exact ⟨k + 1, p - x, by omega, by go_num, rfl, by omega, by omega, e1, hO, hB⟩
              case measure => simp [intOf]; omega
    · have e : (k : Int) = 2 * n := by omega
      have e1 := Lib.hid ((enW_nil (stpM p q r) p n ms u v ((2 * n).toNat - k) k x (by omega)).symm.trans hW.out)
      have e2 : x.tmod p = x % p := Int.tmod_eq_emod_of_nonneg xb0
      have e3 := Int.emod_nonneg x (show p ≠ 0 by omega)
      have e4 := Int.emod_lt_of_pos x (show 0 < p by omega)
      have e5 : (p == 0) = false := by simp; omega
      have e6 := e1.out
      rw [e6] at e2 e3 e4
      clear hW e1 e6 hO
      go_wp2
      go_ret
      exact ⟨rfl, hB⟩
end Go.Proofs.Ytnlbokigogbneaa
