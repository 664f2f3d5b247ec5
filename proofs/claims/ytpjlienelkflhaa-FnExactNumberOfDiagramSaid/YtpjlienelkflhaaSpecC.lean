/- Contracts of the model's reading of texts. -/
import Derived.Test.YtpjlienelkflhaaSpecA
import Derived.Test.YtpjlienelkflhaaInts
import Derived.Test.YtpjlienelkflhaaParse
namespace Go.Proofs.Ytpjlienelkflhaa
open Go.RowKit
set_option maxRecDepth 100000 in
theorem placeS_any (n i : Int) (w : World) (h0 : 0 ≤ n) (h8 : n ≤ 8) (hi : 0 ≤ i) (hi2 : i ≤ 255) :
    Calls Try.prog 46 #[.int .i64 n, .int .i64 i] w fun e w' => e = .returned (.int .i64 (pl n i)) ∧ w' = w := by
  by_cases h : i < n
  · have e : pl n i = i := by unfold pl; rw [if_pos h]
    rw [e]
    clear e
    go_enter Try.func46, Try.ntmps46
    go_wp2
    go_ret
    exact ⟨rfl, rfl⟩
  · have e : pl n i = 3 * n - 1 - i := by unfold pl; rw [if_neg h]
    rw [e]
    clear e
    go_enter Try.func46, Try.ntmps46
    go_wp2
    go_ret
    exact ⟨rfl, rfl⟩
theorem mk0 : ∀ w : World, (Instr.buildSlice 57 0 #[]).run Try.prog w = .ok (.slice (some ⟨w.heap.size, 0, none⟩) 0 0) (w.alloc (.cells #[] 2)) := by
  intro w; kernel_rfl
set_option maxRecDepth 100000 in
set_option maxHeartbeats 1000000 in
theorem readS_ok (s : ByteArray) (n : Int) (w : World) (hn : (s.size : Int) = 2 * n) (h1 : 1 ≤ n) (h8 : n ≤ 8) :
    Calls Try.prog 30 #[.string s] w (DotPost s w) := by
  have hmk := mk0
  have hb := Lib.hid (built26one n)
  go_enter Try.func30, Try.ntmps30
  go_wp2_with (first
    | (go_at_call 26; ((with_reducible refine (inS_t _ _ _ _ (by omega) (by omega)).mono ?_); rintro e w0 ⟨rfl, rfl⟩))
    | (refine wpList_build_of rfl 30 #[(0, .tmp 22)] rfl (dcells n zeros) ?_ ?_; (exact hb.out))
    | (refine wpList_store_own rfl 30 _ _ rfl _ _ rfl rfl 30 _ (Own.at _ _ _ (by first | rfl | simp)) (row26 (d17 _ _ (zlen))) (dz _ _ zlen) (dcells_one _ _) ?_; intro w1 hO1 hN1))
  have hI1 : Ints w1 (w.heap.size + 1) (w.heap.size + 1) 0 [] := ((Ints.new (w.alloc (.cells _ _)) (w.heap.size + 1) (w.heap.size + 1) 0 (by simp) (by simp) (by decide) #[] rfl).alloc _).only hN1 (by omega)
  have hR1 : Own w1 w.heap.size zcells 30 := (Own.alloc (Own.alloc (Own.new _ _ _) _) _).only hN1 (by omega)
  have hB1 : Below w.heap.size w w1 := ((((Below.refl _ _).alloc (Nat.le_refl _) _).alloc (by simp) _).alloc (by simp; omega) _).trans (hN1.below.mono (by omega))
  clear hN1 hb hmk
  go_loopw [6, 7] (fun o i wr => ∃ (k : Nat) (ms op : List Int) (g cap : Nat), (k : Int) ≤ 2 * n ∧ i = .int .i64 k ∧ o = .slice (some ⟨g, 0, none⟩) op.length cap ∧ Hid (pst n s.data.toList k = some (ms, op)) ∧ Own wr (w.heap.size + 2) (dcells n ms) 30 ∧ Own wr w.heap.size zcells 30 ∧ Ints wr (w.heap.size + 1) g cap op ∧ Below w.heap.size w wr) (fun _ i _ => (2 * n - intOf i).toNat)
  case atStart => exact ⟨0, zeros, [], _, _, by omega, rfl, rfl, Lib.hid rfl, hO1, hR1, hI1, hB1⟩
  case round =>
    clear hO1 hI1 hR1 hB1
    obtain ⟨k, ms, op, g, cap, hk, rfl, rfl, hP, hO, hR, hI, hB⟩ := hrel
    obtain ⟨hl, hol, hop⟩ := pst_len _ _ _ _ _ hP.out
    have hol' : op.length ≤ 16 := by omega
    have hs := hB.size
    have hlm := Lib.hid hl
    have hop' := Lib.hid hop
    have hgd := hI.ne_own hO
    clear hl hop
    by_cases hlt : (k : Int) < 2 * n
    · have hks : k < s.size := by omega
      have HG := Lib.hid (get_list s k hks)
      have pb := pl_bd n k h8 (by omega) hlt
      by_cases c40 : s[k] = 40
      · have b40 : ((s[k].toNat : Int) == 40) = true := by rw [c40]; rfl
        have HP := Lib.hid (pst_open _ _ _ _ _ hP.out (by rw [HG.out, c40]))
        clear c40 hP
        go_wp2_with (first
          | (refine wpList_append_ints rfl (.tmp 37) (.tmp 39) rfl (w.heap.size + 1) g cap op k rfl (hI.alloc _) ⟨wr.heap.size, 0, none⟩ 1 rfl ((Own.new _ _ _).cell 0) (by omega) (by simp; have := hR.lt; have := hO.lt; omega) ?_; intro g2 cap2 w2 hI2 hG2))
        have hO2 := (hO.alloc _).grown hG2 (fun e => hgd e.symm)
        have hR2 := (hR.alloc _).grown hG2 (by have := hI.1; omega)
        have hB2 : Below w.heap.size w w2 := (hB.alloc hs _).grown hG2 (by simp; omega) (fun k e => by have := hI.1; simp at e; omega)
        clear hO hR hB hI hG2
        go_wp2
        go_roundw
        case rel => exact ⟨k + 1, ms, op ++ [(k : Int)], g2, cap2, by omega, by go_num, rfl, HP, hO2, hR2, hI2, hB2⟩
        case measure => simp [intOf]; omega
      · by_cases c41 : s[k] = 41
        · have b40 : ((s[k].toNat : Int) == 40) = false := by rw [c41]; rfl
          have b41 : ((s[k].toNat : Int) == 41) = true := by rw [c41]; rfl
          have n40 := Lib.hid (show s.data.toList[k]? ≠ some 40 by rw [HG.out]; simpa using c40)
          have n41 := Lib.hid (show s.data.toList[k]? = some 41 by rw [HG.out, c41])
          clear c40 c41
          rcases List.eq_nil_or_concat op with h0 | ⟨ys, y, h0⟩
          · subst h0
            have HP := Lib.hid (parse_bad _ n (by rw [size_list]; exact hn) (k + 1) (by rw [size_list]; omega) (pst_empty _ _ _ _ hP.out n40.out))
            clear hP
            go_wp2_with (first
              | (refine wpList_build_of rfl 30 #[] rfl zcells ?_ ?_; (exact built26nil)) | (refine wpList_store_own rfl 30 _ _ rfl _ _ rfl rfl 30 _ (hR) (row26 (d17 _ _ (zlen))) (rfl) (dcells_one _ _) ?_; intro w4 hO4 hN4))
            refine bodyPost_ret (v := .tuple #[.agg (zcells), .bool false]) (results_row_tmp rfl _ _ _ _ _ (0, 0) _ rfl (hO4) Try.underlying30 rfl (row26 (d17 _ _ (zlen))) _ rfl) rfl (dot_fail HP.out (hB.trans (hN4.below.mono (Nat.le_refl _))))
          · rw [List.concat_eq_append] at h0
            subst h0
            have hy := hop'.out y (by simp)
            have py := pl_bd n y h8 hy.1 (by omega)
            have hy1 := hy.1
            have hy2 := hy.2
            have HP := Lib.hid (pst_close _ _ _ _ _ _ hP.out n41.out)
            clear hP hop' hy
            have e1 : (ys ++ [y]).length = ys.length + 1 := by simp
            have hc : wr.cell? ⟨g, ys.length, none⟩ = some (.int .i64 y) := by
              rw [hI.cell ys.length (by simp)]
              simp
            have hcap : ys.length + 1 ≤ cap := by have := hI.2.1; simpa using this
            rw [e1] at hol hol'
            have hI2 := hI.pop
            have hgb := hI.1
            clear hI
            rw [e1]
            clear e1
            go_wp2_with fail
            refine wp_region_still_tail 7 (by kernel_rfl) (by kernel_rfl) ?_
            simp only [List.take_succ_cons, List.take_zero, List.drop_succ_cons, List.drop_zero]
            refine wpStill_step (fun K' hK' => ?_)
            rw [if_pos (by rfl)]
            refine still_load_row 30 (.tmp 5) rfl (w.heap.size + 2) rfl 30 (dcells n ms) _ hO Try.underlying30 rfl (row26 (d17 _ _ hlm.out)) ?_
            refine hK' _ ?_
            clear hK' K'
            still_step
            still_step
            still_call (placeS_any n y _ (by omega) h8 (by omega) (by omega))
            still_step
            still_step
            still_call (placeS_any n k _ (by omega) h8 (by omega) (by omega))
            refine wpStill_nil ?_
            have hO' : Own wr.drew (w.heap.size + 2) (dcells n ms) 30 := hO
            have hR' : Own wr.drew w.heap.size zcells 30 := hR
            have hI' : Ints wr.drew (w.heap.size + 1) g cap ys := hI2
            have hB' : Below w.heap.size w wr.drew := hB.drew
            have hs' : w.heap.size ≤ wr.drew.heap.size := hs
            change wpList _ _ _ _ _ wr.drew
            clear hO hR hI2 hB hc hs
            generalize wr.drew = wd at *
            go_wp2_with (first
              | (go_at_call 45; ((with_reducible refine (joinS_any n ms hlm.out (pl n y) (pl n k) _ (by omega) (by omega) (by omega) (by omega)).mono ?_); rintro e w2 ⟨rfl, hB2⟩))
              | (refine wpList_store_own rfl 30 _ _ rfl _ _ rfl rfl 30 _ (hO'.below hB2 hO'.lt) (row26 (d17 _ _ (joinL_len _ _ _ |>.trans hlm.out))) (dd _ _ _ _ hlm.out (joinL_len _ _ _ |>.trans hlm.out)) (dcells_one _ _) ?_; intro w3 hO3 hN3))
            have hR3 := (hR'.below hB2 hR'.lt).only hN3 (by omega)
            have hI3 := (hI'.below hB2 hI'.lt).only hN3 hgd
            have hB3 : Below w.heap.size w w3 := (hB'.trans (hB2.mono hs')).trans (hN3.below.mono (by omega))
            clear hO' hR' hI' hB' hB2 hN3
            go_wp2
            go_roundw
            case rel => exact ⟨k + 1, _, ys, g, cap, by omega, by go_num, rfl, HP, hO3, hR3, hI3, hB3⟩
            case measure => simp [intOf]; omega
        · have b40 : ((s[k].toNat : Int) == 40) = false := byte_ne s[k] 40 c40
          have b41 : ((s[k].toNat : Int) == 41) = false := byte_ne s[k] 41 c41
          have HP := Lib.hid (parse_bad _ n (by rw [size_list]; exact hn) (k + 1) (by rw [size_list]; omega) (pst_other _ _ _ _ _ hP.out (by rw [HG.out]; simpa using c40) (by rw [HG.out]; simpa using c41)))
          clear hP c40 c41
          go_wp2_with (first
            | (refine wpList_build_of rfl 30 #[] rfl zcells ?_ ?_; (exact built26nil)) | (refine wpList_store_own rfl 30 _ _ rfl _ _ rfl rfl 30 _ (hR) (row26 (d17 _ _ (zlen))) (rfl) (dcells_one _ _) ?_; intro w4 hO4 hN4))
          refine bodyPost_ret (v := .tuple #[.agg (zcells), .bool false]) (results_row_tmp rfl _ _ _ _ _ (0, 0) _ rfl (hO4) Try.underlying30 rfl (row26 (d17 _ _ (zlen))) _ rfl) rfl (dot_fail HP.out (hB.trans (hN4.below.mono (Nat.le_refl _))))
    · have HK := Lib.hid (show k = s.data.toList.length by rw [size_list]; omega)
      rcases List.eq_nil_or_concat op with h0 | ⟨ys, y, h0⟩
      · subst h0
        have HP := Lib.hid (parse_some _ n (by rw [size_list]; exact hn) h1 h8 ms (by rw [← HK.out]; exact hP.out))
        clear hP HK
        go_wp2_with (first
          | (refine wpList_load_row rfl 30 _ rfl _ rfl 30 _ (0, 0) _ (hO) Try.underlying30 rfl (row26 (d17 _ _ (hlm.out))) ?_)
          | (refine wpList_store_own rfl 30 _ _ rfl _ _ rfl rfl 30 _ (hR) (row26 (d17 _ _ (hlm.out))) (z_eq (d17 _ _ hlm.out)) (dcells_one _ _) ?_; intro w4 hO4 hN4))
        refine bodyPost_ret (v := .tuple #[.agg (dcells n ms), .bool true]) (results_row_tmp rfl _ _ _ _ _ (0, 0) _ rfl (hO4) Try.underlying30 rfl (row26 (d17 _ _ (hlm.out))) _ rfl) rfl (dot_yes HP.out (hB.trans (hN4.below.mono (Nat.le_refl _))))
      · rw [List.concat_eq_append] at h0
        subst h0
        have HP := Lib.hid (parse_open _ n (by rw [size_list]; exact hn) ms ys y (by rw [← HK.out]; exact hP.out))
        have e1 : (ys ++ [y]).length = ys.length + 1 := by simp
        clear hP HK
        rw [e1]
        clear e1 hol hol'
        go_wp2_with (first
          | (refine wpList_build_of rfl 30 #[] rfl zcells ?_ ?_; (exact built26nil)) | (refine wpList_store_own rfl 30 _ _ rfl _ _ rfl rfl 30 _ (hR) (row26 (d17 _ _ (zlen))) (rfl) (dcells_one _ _) ?_; intro w4 hO4 hN4))
        refine bodyPost_ret (v := .tuple #[.agg (zcells), .bool false]) (results_row_tmp rfl _ _ _ _ _ (0, 0) _ rfl (hO4) Try.underlying30 rfl (row26 (d17 _ _ (zlen))) _ rfl) rfl (dot_fail HP.out (hB.trans (hN4.below.mono (Nat.le_refl _))))
set_option maxRecDepth 100000 in
theorem readS_odd (s : ByteArray) (w : World) (hm : s.size ≤ maxLen) (h : (s.size : Int) % 2 ≠ 0) :
    Calls Try.prog 30 #[.string s] w (DotPost s w) := by
  have HP := Lib.hid (parse_size s.data.toList (.inl (by rw [size_list]; exact h)))
  unfold maxLen at hm
  have b : (((s.size : Int) % 2) != 0) = true := by simpa using h
  clear h
  go_enter Try.func30, Try.ntmps30
  go_wp2_with (first
    | (refine wpList_build_of rfl 30 #[] rfl zcells ?_ ?_; (exact built26nil)) | (refine wpList_store_own rfl 30 _ _ rfl _ _ rfl rfl 30 _ (Own.new w _ _) (row26 (d17 _ _ (zlen))) (rfl) (dcells_one _ _) ?_; intro w4 hO4 hN4))
  refine bodyPost_ret (v := .tuple #[.agg (zcells), .bool false]) (results_row_tmp rfl _ _ _ _ _ (0, 0) _ rfl (hO4) Try.underlying30 rfl (row26 (d17 _ _ (zlen))) _ rfl) rfl (dot_fail HP.out (((Below.refl _ _).alloc (Nat.le_refl _) _).trans (hN4.below.mono (Nat.le_refl _))))
set_option maxRecDepth 100000 in
theorem readS_size (s : ByteArray) (w : World) (hm : s.size ≤ maxLen) (h : (s.size : Int) % 2 = 0) (h2 : (s.size : Int) / 2 < 1 ∨ 8 < (s.size : Int) / 2) :
    Calls Try.prog 30 #[.string s] w (DotPost s w) := by
  have HP := Lib.hid (parse_size s.data.toList (.inr (by rw [size_list]; exact h2)))
  unfold maxLen at hm
  have b : (((s.size : Int) % 2) != 0) = false := by simpa using h
  have H2 := Lib.hid h2
  clear h h2
  go_enter Try.func30, Try.ntmps30
  go_wp2_with (first
    | (go_at_call 26; ((with_reducible refine (inS_f _ _ _ _ H2.out).mono ?_); rintro e w0 ⟨rfl, rfl⟩))
    | (refine wpList_build_of rfl 30 #[] rfl zcells ?_ ?_; (exact built26nil)) | (refine wpList_store_own rfl 30 _ _ rfl _ _ rfl rfl 30 _ (Own.new w _ _) (row26 (d17 _ _ (zlen))) (rfl) (dcells_one _ _) ?_; intro w4 hO4 hN4))
  refine bodyPost_ret (v := .tuple #[.agg (zcells), .bool false]) (results_row_tmp rfl _ _ _ _ _ (0, 0) _ rfl (hO4) Try.underlying30 rfl (row26 (d17 _ _ (zlen))) _ rfl) rfl (dot_fail HP.out (((Below.refl _ _).alloc (Nat.le_refl _) _).trans (hN4.below.mono (Nat.le_refl _))))
theorem readS_any (s : ByteArray) (w : World) (hm : s.size ≤ maxLen) : Calls Try.prog 30 #[.string s] w (DotPost s w) := by
  by_cases h : (s.size : Int) % 2 = 0
  · by_cases h2 : 1 ≤ (s.size : Int) / 2 ∧ (s.size : Int) / 2 ≤ 8
    · exact readS_ok s ((s.size : Int) / 2) w (by omega) h2.1 h2.2
    · exact readS_size s w hm h (by omega)
  · exact readS_odd s w hm h
end Go.Proofs.Ytpjlienelkflhaa
