/- The entry of a diagram at two words: the program's walk over the points, and the model's. -/
import Derived.Test.YtnlbokigogbneaaEnl
import Derived.Test.YtnlbokigogbneaaOnS
import Derived.Test.YtnlbokigogbneaaDiaB
import Derived.Deep.LoopGhost
import Derived.Deep.CutRange
namespace Go.Proofs.Ytnlbokigogbneaa
open Go.RowKit
set_option linter.unusedVariables false
theorem rowSp (p q r : Int) : (Try.prog.info? 43).map (·.size) = some (spc p q r).size := by show _ = some 3; kernel_rfl
theorem enW_skip (st : Bool → Int → Int → Int) (p n : Int) (ms : List Int) (u v : Int) (f k : Nat) (x : Int) (hf : f = k + 1) (i j : Int) (hi : i + 1 = j) (h : mate ms i < i) : enW st p n ms u v f i x = enW st p n ms u v k j x := by subst hf hi; rw [enW, if_pos h]
theorem enW_thru (st : Bool → Int → Int → Int) (p n : Int) (ms : List Int) (u v : Int) (f k : Nat) (x : Int) (hf : f = k + 1) (i j : Int) (hi : i + 1 = j) (h : ¬ mate ms i < i) (h2 : i < n ∧ n ≤ mate ms i) (h3 : ptl n u v i = ptl n u v (mate ms i)) : enW st p n ms u v f i x = enW st p n ms u v k j x := by subst hf hi; rw [enW, if_neg h, if_pos h2, if_pos h3]
theorem enW_thru0 (st : Bool → Int → Int → Int) (p n : Int) (ms : List Int) (u v : Int) (f k : Nat) (x : Int) (hf : f = k + 1) (i : Int) (h : ¬ mate ms i < i) (h2 : i < n ∧ n ≤ mate ms i) (h3 : ¬ ptl n u v i = ptl n u v (mate ms i)) : enW st p n ms u v f i x = 0 := by subst hf; rw [enW, if_neg h, if_pos h2, if_neg h3]
theorem enW_not0 (st : Bool → Int → Int → Int) (p n : Int) (ms : List Int) (u v : Int) (f k : Nat) (x : Int) (hf : f = k + 1) (i : Int) (h : ¬ mate ms i < i) (h2 : ¬ (i < n ∧ n ≤ mate ms i)) (h3 : ptl n u v i = ptl n u v (mate ms i)) : enW st p n ms u v f i x = 0 := by subst hf; rw [enW, if_neg h, if_neg h2, if_pos h3]
theorem enW_not (st : Bool → Int → Int → Int) (p n : Int) (ms : List Int) (u v : Int) (f k : Nat) (x : Int) (hf : f = k + 1) (i j : Int) (hi : i + 1 = j) (h : ¬ mate ms i < i) (h2 : ¬ (i < n ∧ n ≤ mate ms i)) (h3 : ¬ ptl n u v i = ptl n u v (mate ms i)) : enW st p n ms u v f i x = enW st p n ms u v k j (st (decide (mate ms i < n)) (ptl n u v i) x) := by subst hf hi; rw [enW, if_neg h, if_neg h2, if_neg h3]
theorem enW_nil (st : Bool → Int → Int → Int) (p n : Int) (ms : List Int) (u v : Int) (f : Nat) (i x : Int) (hf : f = 0) : enW st p n ms u v f i x = x % p := by subst hf; rfl
theorem mul_bd (x y : Int) (x0 : 0 ≤ x) (x1 : x ≤ 97) (y0 : -1 ≤ y) (y1 : y ≤ 97) : -97 ≤ x * y ∧ x * y ≤ 9409 := by
  have h1 : x * y ≤ x * 97 := Int.mul_le_mul_of_nonneg_left y1 x0
  have h2 : x * (-1) ≤ x * y := Int.mul_le_mul_of_nonneg_left y0 x0
  omega
theorem arc_bd (q r : Int) (up : Bool) (a : Int) (q0 : 0 ≤ q) (q1 : q ≤ 97) (r0 : 0 ≤ r) (r1 : r ≤ 97) : -1 ≤ arcN q r up a ∧ arcN q r up a ≤ 97 := by
  unfold arcN; cases up <;> simp only [if_true, if_false, Bool.false_eq_true] <;> split <;> omega
set_option maxRecDepth 100000 in
set_option maxHeartbeats 4000000 in
theorem entI_any (p q r : Int) (hp : 2 ≤ p) (hp2 : p ≤ 97) (q0 : 0 ≤ q) (q1 : q ≤ 97) (r0 : 0 ≤ r) (r1 : r ≤ 97) (n : Int) (ms : List Int) (hms : ms.length = 16) (hb : Bytes ms) (hd : IsS n ms) (u v : Int) (u0 : 0 ≤ u) (u1 : u < 2 ^ n.toNat) (v0 : 0 ≤ v) (v1 : v < 2 ^ n.toNat) (w : World) :
    Calls Try.prog 35 #[.agg (spc p q r), .agg (dcells n ms), .int .i64 u, .int .i64 v] w fun e w' => e = .returned (.int .i64 (entN p q r n ms u v)) ∧ Below w.heap.size w w' := by
  rw [← ent_one p q r n ms u v hp]
  have hl := Lib.hid hms
  have hbb := Lib.hid hb
  have hN := Net.of hb hd
  have hmt := Lib.hid (show ∀ p : Int, 0 ≤ p → p < 2 * n → 0 ≤ mate ms p ∧ mate ms p < 2 * n from fun p h0 h2 => by
    have b := pl_lt n p h0 h2
    have m := hN.mt (pl n p) b.1 b.2
    rw [pl_pl n p h0 h2] at m
    have q := hN.lt (pl n p) b.1 b.2
    rw [m]; exact pl_lt n _ q.1 q.2.1)
  obtain ⟨h1, h8⟩ := hd.1
  have hor := or_both u v n.toNat (by omega) u0 u1 v0 v1
  have hlb := ltr_both n u v
  obtain ⟨A, hA⟩ : ∃ A, enW (stpI p q r) p n ms u v (2 * n).toNat 0 1 = A := ⟨_, rfl⟩
  rw [hA]
  obtain ⟨X, hX⟩ : ∃ X, u * 2 ^ n.toNat + v = X := ⟨_, rfl⟩
  obtain ⟨Y, hY⟩ : ∃ Y, u * 2 ^ n.toNat = Y := ⟨_, rfl⟩
  rw [hX] at hor
  rw [hY] at hor
  obtain ⟨o1, y0, y1, x0, x1⟩ := hor
  have hlt' := Lib.hid (show ∀ i : Int, 0 ≤ i → i < 2 * n → ltr X (2 * n - 1 - i) = ptl n u v i from fun i i0 i1 => by rw [← hX]; exact hlb i h1 h8 u0 v0 v1 i0 i1)
  have hlet := Lib.hid (show ∀ i : Int, 0 ≤ i → i < 2 * n → ∀ w, Calls Try.prog 49 #[.int .i64 (2 * n), .int .i64 X, .int .i64 i] w fun e w' => e = .returned (.int .i64 (ptl n u v i)) ∧ w' = w from fun i i0 i1 w => by
    have := letI_any (2 * n) X i (2 * n - 1 - i).toNat (by omega) (by omega) (by omega) (by omega) x0 x1 w
    rw [show ((2 * n - 1 - i).toNat : Int) = 2 * n - 1 - i by omega, hlt'.out i i0 i1] at this
    exact this)
  have hsh : (Op.shift .shl .i64 u .i64 n : Sem Value) = pure (.int .i64 Y) := by
    rw [shift_shl .i64 .i64 u n (by omega) (by show n ≤ 64; omega), hY, IntWalk.i64_in _ (by omega)]
  have c0 := dcells_zero n ms
  clear hms hb hd hN hlb
  go_enter Try.func35, Try.ntmps35
  go_wp2
  have hOs : Own ((w.alloc (.cells (spc p q r) 43)).alloc (.cells (dcells n ms) 29)) w.heap.size (spc p q r) 43 := Own.alloc (Own.new _ _ _) _
  have hOd : Own ((w.alloc (.cells (spc p q r) 43)).alloc (.cells (dcells n ms) 29)) (w.heap.size + 1) (dcells n ms) 29 := Own.at _ _ _ (by simp)
  have hBa : Below w.heap.size w ((w.alloc (.cells (spc p q r) 43)).alloc (.cells (dcells n ms) 29)) := ((Below.refl _ _).alloc (Nat.le_refl _) _).alloc (by simp) _
  clear c0 hsh y0 y1 hY o1
  go_loopw [11, 27] (fun e i wr => ∃ (k : Nat) (x : Int), (k : Int) ≤ 2 * n ∧ i = .int .i64 k ∧ e = .int .i64 x ∧ 0 ≤ x ∧ x < p ∧ Hid (enW (stpI p q r) p n ms u v ((2 * n).toNat - k) k x = A) ∧ Own wr w.heap.size (spc p q r) 43 ∧ Own wr (w.heap.size + 1) (dcells n ms) 29 ∧ Below w.heap.size w wr) (fun _ i _ => (2 * n - intOf i).toNat)
  case atStart => exact ⟨0, 1, by omega, rfl, rfl, by omega, by omega, Lib.hid hA, hOs, hOd, hBa⟩
  case round =>
    clear hOs hOd hBa hA
    obtain ⟨k, x, hk, rfl, rfl, xb0, xb1, hW, hS, hO, hB⟩ := hrel
    by_cases hlt : (k : Int) < 2 * n
    · have hk16 : (k : Int) < 16 := by omega
      obtain ⟨f, hf⟩ : ∃ f : Nat, (2 * n).toNat - k = f + 1 := ⟨(2 * n).toNat - k - 1, by omega⟩
      have hf' : f = (2 * n).toNat - (k + 1) := by omega
      have hkk : (k : Int) + 1 = ((k + 1 : Nat) : Int) := by omega
      have c1 := hO.cell (1 + k)
      rw [dcells_get n ms k (by rw [hl.out]; omega)] at c1
      have hm0 := hmt.out k (by omega) hlt
      have hlk := Lib.hid (hlet.out k (by omega) hlt)
      have hly := Lib.hid (hlet.out (mate ms k) hm0.1 hm0.2)
      have bk := ptl_bit n u v k
      have eS := Lib.hid (enW_skip (stpI p q r) p n ms u v _ f x hf k _ hkk)
      have eT := Lib.hid (enW_thru (stpI p q r) p n ms u v _ f x hf k _ hkk)
      have eT0 := Lib.hid (enW_thru0 (stpI p q r) p n ms u v _ f x hf k)
      have eN := Lib.hid (enW_not (stpI p q r) p n ms u v _ f x hf k _ hkk)
      have eN0 := Lib.hid (enW_not0 (stpI p q r) p n ms u v _ f x hf k)
      have ey : mate ms k = ms.getD k 0 := by unfold mate; rw [Int.toNat_natCast]
      rw [hf'] at eS eT eN
      rw [← ey] at c1
      obtain ⟨y, hy⟩ : ∃ y, mate ms k = y := ⟨_, rfl⟩
      rw [hy] at c1 hm0 hly eS eT eT0 eN eN0
      obtain ⟨a, ha⟩ : ∃ a, ptl n u v k = a := ⟨_, rfl⟩
      rw [ha] at hlk bk eT eT0 eN eN0
      obtain ⟨b, hb⟩ : ∃ b, ptl n u v y = b := ⟨_, rfl⟩
      rw [hb] at hly eT eT0 eN eN0
      obtain ⟨hy0, hy1⟩ := hm0
      clear ey hy ha hb hf hf' hkk
      by_cases hyk : y < (k : Int)
      · have e1 := Lib.hid ((eS.out hyk).symm.trans hW.out)
        clear eS eT eT0 eN eN0 hW hlk hly
        go_wp2
        go_roundw
        case rel => exact ⟨k + 1, x, by omega, by go_num, rfl, xb0, xb1, e1, hS, hO, hB⟩
        case measure => simp [intOf]; omega
      · by_cases hth : (k : Int) < n ∧ n ≤ y
        · obtain ⟨t1, t2⟩ := hth
          have t3 : decide (y < n) = false := by simp; omega
          by_cases hab : a = b
          · have e1 := Lib.hid ((eT.out hyk ⟨t1, t2⟩ hab).symm.trans hW.out)
            subst hab
            clear eS eT eT0 eN eN0 hW
            go_wp2_with (first
              | (go_at_call 49; ((with_reducible refine (hlk.out _).mono ?_); rintro e1 w1 ⟨rfl, rfl⟩))
              | (go_at_call 49; ((with_reducible refine (hly.out _).mono ?_); rintro e2 w2 ⟨rfl, rfl⟩)))
            go_roundw
            case rel => exact ⟨k + 1, x, by omega, by go_num, rfl, xb0, xb1, e1, hS, hO, hB⟩
            case measure => simp [intOf]; omega
          · have e1 := Lib.hid ((eT0.out hyk ⟨t1, t2⟩ hab).symm.trans hW.out)
            have hba : (a == b) = false := by simpa using hab
            clear eS eT eT0 eN eN0 hW
            go_wp2_with (first
              | (go_at_call 49; ((with_reducible refine (hlk.out _).mono ?_); rintro e1 w1 ⟨rfl, rfl⟩))
              | (go_at_call 49; ((with_reducible refine (hly.out _).mono ?_); rintro e2 w2 ⟨rfl, rfl⟩)))
            go_ret
            exact ⟨by rw [← e1.out]; rfl, hB⟩
        · by_cases hyn : y < n
          · have t1 : (k : Int) < n := by omega
            by_cases hab : a = b
            · have e1 := Lib.hid ((eN0.out hyk hth hab).symm.trans hW.out)
              subst hab
              have t3 : decide (y < n) = true := by simp; omega
              clear eS eT eT0 eN eN0 hW
              go_wp2_with (first
                | (go_at_call 49; ((with_reducible refine (hlk.out _).mono ?_); rintro e1 w1 ⟨rfl, rfl⟩))
                | (go_at_call 49; ((with_reducible refine (hly.out _).mono ?_); rintro e2 w2 ⟨rfl, rfl⟩)))
              go_ret
              exact ⟨by rw [← e1.out]; rfl, hB⟩
            · have hba : (a == b) = false := by simpa using hab
              have t3 : decide (y < n) = true := by simp; omega
              have e0 := (eN.out hyk hth hab).symm.trans hW.out
              rw [t3] at e0
              have hac := Lib.hid (fun w => arcI_any p q r true a bk w)
              have ab := arc_bd q r true a q0 q1 r0 r1
              have mb := mul_bd x (arcN q r true a) xb0 (by omega) ab.1 ab.2
              have nb := stpI_bd p q r true a x hp
              have hs : (x * arcN q r true a) % p = stpI p q r true a x := rfl
              obtain ⟨z, hz⟩ : ∃ z, stpI p q r true a x = z := ⟨_, rfl⟩
              rw [hz] at hs nb e0
              have e1 := Lib.hid e0
              obtain ⟨c, hc⟩ : ∃ c, arcN q r true a = c := ⟨_, rfl⟩
              rw [hc] at hac mb hs ab
              have hm := Lib.hid (fun w1 => (remI_any p (x * c) w1 hp hp2 (by omega) (by omega)).mono fun e w' h => (show e = .returned (.int .i64 z) ∧ w' = w1 from ⟨by rw [← hs]; exact h.1, h.2.symm⟩))
              obtain ⟨mb1, mb2⟩ := mb
              obtain ⟨nb1, nb2⟩ := nb
              clear eS eT eT0 eN eN0 hW e0 hs hz hc ab
              go_upto_region 16 with (first
                | (go_at_call 49; ((with_reducible refine (hlk.out _).mono ?_); rintro e1 w1 ⟨rfl, rfl⟩))
                | (go_at_call 49; ((with_reducible refine (hly.out _).mono ?_); rintro e2 w2 ⟨rfl, rfl⟩)))
              refine wp_region_st (fun x => Own x w.heap.size (spc p q r) 43) [(true, 0), (true, 1), (true, 2), (true, 3), (true, 4), (true, 5), (false, 6), (true, 7), (false, 8)] 9 (by kernel_rfl) (by kernel_rfl) (hS.drewN 1) ?_
              have hSd : Own { w2 with drawn := w2.drawn + 1 } w.heap.size (spc p q r) 43 := hS
              have hOd : Own { w2 with drawn := w2.drawn + 1 } (w.heap.size + 1) (dcells n ms) 29 := hO
              have hBd : Below w.heap.size w { w2 with drawn := w2.drawn + 1 } := hB.drew
              clear hS hO hB c1
              generalize ({ w2 with drawn := w2.drawn + 1 } : World) = w3 at *
              simp only [List.map_cons, List.map_nil, opS'_mk, opN_zero, opN_succ, List.drop_succ_cons, List.drop_zero]
              (apply wpSt_read; · (intro wd hS K hK; clear hS; go_simp; exact hK))
              (apply wpSt_read; · (intro wd hS K hK; obtain ⟨d0, _, _⟩ := spc_own hS; clear hS; go_simp; exact hK))
              (apply wpSt_read; · (intro wd hS K hK; clear hS; go_simp; exact hK))
              (apply wpSt_read; · (intro wd hS K hK; rw [if_pos (by rfl)]; refine still_load_row 43 (.tmp 4) rfl w.heap.size rfl 43 (spc p q r) _ hS Try.underlying43 rfl (rowSp p q r) ?_; exact hK))
              (apply wpSt_read; · (intro wd hS K hK; clear hS; go_simp; exact hK))
              (apply wpSt_read; · (intro wd hS K hK; clear hS; go_simp; exact hK))
              refine wpSt_keep (fun K hK => ?_)
              go_wp2_with (first
                | (go_at_call 50; ((with_reducible refine (hac.out w3).mono ?_); rintro e w4 ⟨rfl, hB4⟩)))
              refine hK _ _ (hSd.below hB4 hSd.lt) rfl ?_
              clear hK K
              have hS4 := hSd.below hB4 hSd.lt
              have hO4 := hOd.below hB4 hOd.lt
              have b4 : Below w.heap.size w w4 := hBd.trans (hB4.mono hBd.size)
              clear hSd hOd hBd hB4
              (apply wpSt_read; · (intro wd hS K hK; clear hS; go_simp; exact hK))
              refine wpSt_keep (fun K hK => ?_)
              go_wp2_with (first
                | (go_at_call 46; ((with_reducible refine (hm.out _).mono ?_); rintro e5 w5 ⟨rfl, rfl⟩)))
              refine hK _ _ hS4 rfl ?_
              clear hK K
              refine wpSt_nil ?_
              go_wp2
              go_roundw
              case rel => exact ⟨k + 1, z, by omega, by go_num, rfl, nb1, nb2, e1, hS4, hO4, b4⟩
              case measure => simp [intOf]; omega
          · have t1 : ¬ (k : Int) < n := by omega
            by_cases hab : a = b
            · have e1 := Lib.hid ((eN0.out hyk hth hab).symm.trans hW.out)
              subst hab
              have t3 : decide (y < n) = false := by simp; omega
              clear eS eT eT0 eN eN0 hW
              go_wp2_with (first
                | (go_at_call 49; ((with_reducible refine (hlk.out _).mono ?_); rintro e1 w1 ⟨rfl, rfl⟩))
                | (go_at_call 49; ((with_reducible refine (hly.out _).mono ?_); rintro e2 w2 ⟨rfl, rfl⟩)))
              go_ret
              exact ⟨by rw [← e1.out]; rfl, hB⟩
            · have hba : (a == b) = false := by simpa using hab
              have t3 : decide (y < n) = false := by simp; omega
              have e0 := (eN.out hyk hth hab).symm.trans hW.out
              rw [t3] at e0
              have hac := Lib.hid (fun w => arcI_any p q r false a bk w)
              have ab := arc_bd q r false a q0 q1 r0 r1
              have mb := mul_bd x (arcN q r false a) xb0 (by omega) ab.1 ab.2
              have nb := stpI_bd p q r false a x hp
              have hs : (x * arcN q r false a) % p = stpI p q r false a x := rfl
              obtain ⟨z, hz⟩ : ∃ z, stpI p q r false a x = z := ⟨_, rfl⟩
              rw [hz] at hs nb e0
              have e1 := Lib.hid e0
              obtain ⟨c, hc⟩ : ∃ c, arcN q r false a = c := ⟨_, rfl⟩
              rw [hc] at hac mb hs ab
              have hm := Lib.hid (fun w1 => (remI_any p (x * c) w1 hp hp2 (by omega) (by omega)).mono fun e w' h => (show e = .returned (.int .i64 z) ∧ w' = w1 from ⟨by rw [← hs]; exact h.1, h.2.symm⟩))
              obtain ⟨mb1, mb2⟩ := mb
              obtain ⟨nb1, nb2⟩ := nb
              clear eS eT eT0 eN eN0 hW e0 hs hz hc ab
              go_upto_region 16 with (first
                | (go_at_call 49; ((with_reducible refine (hlk.out _).mono ?_); rintro e1 w1 ⟨rfl, rfl⟩))
                | (go_at_call 49; ((with_reducible refine (hly.out _).mono ?_); rintro e2 w2 ⟨rfl, rfl⟩)))
              refine wp_region_st (fun x => Own x w.heap.size (spc p q r) 43) [(true, 0), (true, 1), (true, 2), (true, 3), (true, 4), (true, 5), (false, 6), (true, 7), (false, 8)] 9 (by kernel_rfl) (by kernel_rfl) (hS.drewN 1) ?_
              have hSd : Own { w2 with drawn := w2.drawn + 1 } w.heap.size (spc p q r) 43 := hS
              have hOd : Own { w2 with drawn := w2.drawn + 1 } (w.heap.size + 1) (dcells n ms) 29 := hO
              have hBd : Below w.heap.size w { w2 with drawn := w2.drawn + 1 } := hB.drew
              clear hS hO hB c1
              generalize ({ w2 with drawn := w2.drawn + 1 } : World) = w3 at *
              simp only [List.map_cons, List.map_nil, opS'_mk, opN_zero, opN_succ, List.drop_succ_cons, List.drop_zero]
              (apply wpSt_read; · (intro wd hS K hK; clear hS; go_simp; exact hK))
              (apply wpSt_read; · (intro wd hS K hK; obtain ⟨d0, _, _⟩ := spc_own hS; clear hS; go_simp; exact hK))
              (apply wpSt_read; · (intro wd hS K hK; clear hS; go_simp; exact hK))
              (apply wpSt_read; · (intro wd hS K hK; rw [if_pos (by rfl)]; refine still_load_row 43 (.tmp 4) rfl w.heap.size rfl 43 (spc p q r) _ hS Try.underlying43 rfl (rowSp p q r) ?_; exact hK))
              (apply wpSt_read; · (intro wd hS K hK; clear hS; go_simp; exact hK))
              (apply wpSt_read; · (intro wd hS K hK; clear hS; go_simp; exact hK))
              refine wpSt_keep (fun K hK => ?_)
              go_wp2_with (first
                | (go_at_call 50; ((with_reducible refine (hac.out w3).mono ?_); rintro e w4 ⟨rfl, hB4⟩)))
              refine hK _ _ (hSd.below hB4 hSd.lt) rfl ?_
              clear hK K
              have hS4 := hSd.below hB4 hSd.lt
              have hO4 := hOd.below hB4 hOd.lt
              have b4 : Below w.heap.size w w4 := hBd.trans (hB4.mono hBd.size)
              clear hSd hOd hBd hB4
              (apply wpSt_read; · (intro wd hS K hK; clear hS; go_simp; exact hK))
              refine wpSt_keep (fun K hK => ?_)
              go_wp2_with (first
                | (go_at_call 46; ((with_reducible refine (hm.out _).mono ?_); rintro e5 w5 ⟨rfl, rfl⟩)))
              refine hK _ _ hS4 rfl ?_
              clear hK K
              refine wpSt_nil ?_
              go_wp2
              go_roundw
              case rel => exact ⟨k + 1, z, by omega, by go_num, rfl, nb1, nb2, e1, hS4, hO4, b4⟩
              case measure => simp [intOf]; omega
    · have e : (k : Int) = 2 * n := by omega
      have e1 := Lib.hid ((enW_nil (stpI p q r) p n ms u v ((2 * n).toNat - k) k x (by omega)).symm.trans hW.out)
      have e2 : x % p = x := Int.emod_eq_of_lt xb0 xb1
      have e3 : x = A := by rw [← e1.out, e2]
      subst e3
      clear hW e1 e2 hO hS
      go_wp2
      go_ret
      exact ⟨rfl, hB⟩
end Go.Proofs.Ytnlbokigogbneaa
