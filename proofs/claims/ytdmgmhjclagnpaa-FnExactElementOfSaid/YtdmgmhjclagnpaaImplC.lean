/- Contracts of the program's reading of texts. -/
import Derived.Test.YtdmgmhjclagnpaaImplA
import Derived.Test.YtdmgmhjclagnpaaInts
import Derived.Test.YtdmgmhjclagnpaaParse
namespace Go.Proofs.Ytdmgmhjclagnpaa
open Go.RowKit
set_option maxRecDepth 100000 in
theorem placeI_any (n i : Int) (w : World) (h0 : 0 ≤ n) (h8 : n ≤ 8) (hi : 0 ≤ i) (hi2 : i ≤ 255) :
    Calls Try.prog 93 #[.int .i64 n, .int .i64 i] w fun e w' => e = .returned (.int .i64 (pl n i)) ∧ w = w' := by
  by_cases h : i < n
  · have e : pl n i = i := by unfold pl; rw [if_pos h]
    rw [e]
    clear e
    go_enter Try.func93, Try.ntmps93
    go_wp2
    go_ret
    exact ⟨rfl, rfl⟩
  · have e : pl n i = 3 * n - 1 - i := by unfold pl; rw [if_neg h]
    rw [e]
    clear e
    go_enter Try.func93, Try.ntmps93
    go_wp2
    go_ret
    exact ⟨rfl, rfl⟩
set_option maxRecDepth 100000 in
theorem pointI_any (n i : Int) (w : World) (h0 : 0 ≤ n) (h8 : n ≤ 8) (hi : 0 ≤ i) (hi2 : i ≤ 255) :
    Calls Try.prog 92 #[.int .i64 n, .int .i64 i] w fun e w' => e = .returned (.int .i64 (pl n i)) ∧ w = w' := by
  go_enter Try.func92, Try.ntmps92
  go_wp2_with (first
    | (go_at_call 93; ((with_reducible refine (placeI_any n i _ h0 h8 hi hi2).mono ?_); rintro e w0 ⟨rfl, rfl⟩)))
  go_ret
  exact ⟨rfl, rfl⟩
theorem make0 : ∀ w : World, (Instr.makeSlice 114 (.int .i64 0) (.int .i64 16)).run Try.prog w = .ok (.slice (some ⟨w.heap.size, 0, none⟩) 0 16) (w.alloc (.cells (Array.replicate 16 (.int .i64 0)) 2)) := by
  intro w; kernel_rfl
set_option maxRecDepth 100000 in
set_option maxHeartbeats 1000000 in
theorem dot_ok (s : ByteArray) (n : Int) (w : World) (hn : (s.size : Int) = 2 * n) (h1 : 1 ≤ n) (h8 : n ≤ 8) :
    Calls Try.prog 77 #[.string s] w (DotPost s w) := by
  have hmk := make0
  go_enter Try.func77, Try.ntmps77
  go_wp2_with (first
    | (go_at_call 68; ((with_reducible refine (isSize_t _ _ (by omega) (by omega)).mono ?_); rintro e w0 ⟨rfl, rfl⟩))
    | (go_at_call 82; ((with_reducible refine (newMates_any _).mono ?_); rintro e w0 ⟨rfl, rfl⟩)))
  clear hmk
  go_loopw [6, 26] (fun o i wr => ∃ (k : Nat) (ms op : List Int) (g cap : Nat), (k : Int) ≤ 2 * n ∧ i = .int .i64 k ∧ o = .slice (some ⟨g, 0, none⟩) op.length cap ∧ Hid (pst n s.data.toList k = some (ms, op)) ∧ Own wr (w.heap.size + 1) (mcells ms) 5 ∧ Own wr w.heap.size zcells 53 ∧ Ints wr (w.heap.size + 2) g cap (op.map (pl n)) ∧ Below w.heap.size w wr) (fun _ i _ => (2 * n - intOf i).toNat)
  case atStart => exact ⟨0, zeros, [], _, _, by omega, rfl, rfl, Lib.hid rfl, Own.alloc (Own.at _ _ _ (by simp)) _, (Own.alloc (Own.alloc (Own.new _ _ _) _) _), Ints.new _ _ _ _ (by simp) (by simp) (by decide) _ (by simp), (((Below.refl _ _).alloc (Nat.le_refl _) _).alloc (by simp) _).alloc (by simp; omega) _⟩
  case round =>
    obtain ⟨k, ms, op, g, cap, hk, rfl, rfl, hP, hO, hR, hI, hB⟩ := hrel
    obtain ⟨hl, hol, hop⟩ := pst_len _ _ _ _ _ hP.out
    have hol' : op.length ≤ 16 := by omega
    have hs := hB.size
    have hlm := Lib.hid hl
    have hop' := Lib.hid hop
    clear hl hop
    by_cases hlt : (k : Int) < 2 * n
    · have hks : k < s.size := by omega
      have HG := Lib.hid (get_list s k hks)
      have pb := pl_bd n k h8 (by omega) hlt
      by_cases c40 : s[k] = 40
      · have b40 : ((s[k].toNat : Int) == 40) = true := by rw [c40]; rfl
        have HP := Lib.hid (pst_open _ _ _ _ _ hP.out (by rw [HG.out, c40]))
        clear c40 hP
        go_wp2_with (first
          | (go_at_call 92; ((with_reducible refine (pointI_any n k _ (by omega) h8 (by omega) (by omega)).mono ?_); rintro e w0 ⟨rfl, rfl⟩))
          | (refine wpList_append_ints rfl (.tmp 38) (.tmp 40) rfl (w.heap.size + 2) g cap (op.map (pl n)) (pl n k) (by simp [ival]; rfl) (hI.alloc _) ⟨wr.heap.size, 0, none⟩ 1 rfl ((Own.new _ _ _).cell 0) (by simp; omega) (by simp; have := hR.lt; have := hO.lt; omega) ?_; intro g2 cap2 w2 hI2 hG2))
        have hO2 := (hO.alloc _).grown hG2 (by have := hI.1; omega)
        have hR2 := (hR.alloc _).grown hG2 (by have := hI.1; omega)
        have hB2 : Below w.heap.size w w2 := (hB.alloc hs _).grown hG2 (by simp; omega) (fun k e => by have := hI.1; simp at e; omega)
        have hI3 : Ints w2 (w.heap.size + 2) g2 cap2 ((op ++ [(k : Int)]).map (pl n)) := by rw [List.map_append]; exact hI2
        clear hO hR hB hI hG2 hI2
        go_wp2
        go_roundw
        case rel => exact ⟨k + 1, ms, op ++ [(k : Int)], g2, cap2, by omega, by go_num, by simp [ival], HP, hO2, hR2, hI3, hB2⟩
        case measure => simp [intOf]; omega
      · by_cases c41 : s[k] = 41
        · have b40 : ((s[k].toNat : Int) == 40) = false := by rw [c41]; rfl
          have b41 : ((s[k].toNat : Int) == 41) = true := by rw [c41]; rfl
          have n40 := Lib.hid (show s.data.toList[k]? ≠ some 40 by rw [HG.out]; simpa using c40)
          have n41 := Lib.hid (show s.data.toList[k]? = some 41 by rw [HG.out, c41])
          clear c40 c41
          rcases List.eq_nil_or_concat op with h0 | ⟨ys, y, h0⟩
          · subst h0
            have HP := Lib.hid (parse_bad _ n (by rw [size_list]; exact hn) (k + 1) (by rw [size_list]; omega) (pst_empty _ _ _ _ hP.out n40.out))
            clear hP
            go_wp2_with (first
              | (go_at_call 92; ((with_reducible refine (pointI_any n k _ (by omega) h8 (by omega) (by omega)).mono ?_); rintro e w0 ⟨rfl, rfl⟩))
              | (refine wpList_build_of rfl 53 #[] rfl zcells ?_ ?_; (exact built26nil)) | (refine wpList_store_own rfl 53 _ _ rfl _ _ rfl rfl 53 _ (hR) (row26 (d17 _ _ (zlen))) (rfl) (dcells_one _ _) ?_; intro w4 hO4 hN4))
            refine bodyPost_ret (v := .tuple #[.agg (zcells), .bool false]) (results_row_tmp rfl _ _ _ _ _ (0, 0) _ rfl (hO4) Try.underlying53 rfl (row26 (d17 _ _ (zlen))) _ rfl) rfl (dot_fail HP.out (hB.trans (hN4.below.mono (Nat.le_refl _))))
          · rw [List.concat_eq_append] at h0
            subst h0
            have hy := hop'.out y (by simp)
            have py := pl_bd n y h8 hy.1 (by omega)
            have HP := Lib.hid (pst_close _ _ _ _ _ _ hP.out n41.out)
            clear hP hop' hy
            rw [List.map_append] at hI
            have e1 : (ys ++ [y]).length = ys.length + 1 := by simp
            have hc : wr.cell? ⟨g, ys.length, none⟩ = some (.int .i64 (pl n y)) := by
              rw [hI.cell ys.length (by simp)]
              simp
            have hcap : ys.length + 1 ≤ cap := by have := hI.2.1; simpa using this
            rw [e1] at hol hol'
            have hI2 := hI.pop
            have hgb := hI.1
            clear hI
            rw [e1]
            clear e1
            go_wp2_with (first
              | (go_at_call 92; ((with_reducible refine (pointI_any n k _ (by omega) h8 (by omega) (by omega)).mono ?_); rintro e w0 ⟨rfl, rfl⟩))
              | (go_at_call 83; ((with_reducible refine (join_any _ ms hlm.out (pl n y) (pl n k) _ hO (by omega) (by omega) (by omega) (by omega)).mono ?_); rintro e w2 ⟨rfl, hO2, hN2⟩)))
            go_roundw
            case rel => exact ⟨k + 1, _, ys, g, cap, by omega, by go_num, rfl, HP, hO2, hR.only hN2 (by omega), hI2.only hN2 (by omega), hB.trans (hN2.below.mono (by omega))⟩
            case measure => simp [intOf]; omega
        · have b40 : ((s[k].toNat : Int) == 40) = false := byte_ne s[k] 40 c40
          have b41 : ((s[k].toNat : Int) == 41) = false := byte_ne s[k] 41 c41
          have HP := Lib.hid (parse_bad _ n (by rw [size_list]; exact hn) (k + 1) (by rw [size_list]; omega) (pst_other _ _ _ _ _ hP.out (by rw [HG.out]; simpa using c40) (by rw [HG.out]; simpa using c41)))
          clear hP c40 c41
          go_wp2_with (first
            | (go_at_call 92; ((with_reducible refine (pointI_any n k _ (by omega) h8 (by omega) (by omega)).mono ?_); rintro e w0 ⟨rfl, rfl⟩))
            | (refine wpList_build_of rfl 53 #[] rfl zcells ?_ ?_; (exact built26nil)) | (refine wpList_store_own rfl 53 _ _ rfl _ _ rfl rfl 53 _ (hR) (row26 (d17 _ _ (zlen))) (rfl) (dcells_one _ _) ?_; intro w4 hO4 hN4))
          refine bodyPost_ret (v := .tuple #[.agg (zcells), .bool false]) (results_row_tmp rfl _ _ _ _ _ (0, 0) _ rfl (hO4) Try.underlying53 rfl (row26 (d17 _ _ (zlen))) _ rfl) rfl (dot_fail HP.out (hB.trans (hN4.below.mono (Nat.le_refl _))))
    · have HK := Lib.hid (show k = s.data.toList.length by rw [size_list]; omega)
      rcases List.eq_nil_or_concat op with h0 | ⟨ys, y, h0⟩
      · subst h0
        have HP := Lib.hid (parse_some _ n (by rw [size_list]; exact hn) h1 h8 ms (by rw [← HK.out]; exact hP.out))
        clear hP HK
        go_wp2_with (first
          | (go_at_call 84; ((with_reducible refine (dom_any _ ms hlm.out n _ hO).mono ?_); rintro e w2 ⟨rfl, hB2⟩))
          | (refine wpList_store_own rfl 53 _ _ rfl _ _ rfl rfl 53 _ (hR.below hB2 hR.lt) (row26 (d17 _ _ (hlm.out))) (z_eq (d17 _ _ hlm.out)) (dcells_one _ _) ?_; intro w4 hO4 hN4))
        refine bodyPost_ret (v := .tuple #[.agg (dcells n ms), .bool true]) (results_row_tmp rfl _ _ _ _ _ (0, 0) _ rfl (hO4) Try.underlying53 rfl (row26 (d17 _ _ (hlm.out))) _ rfl) rfl (dot_yes HP.out ((hB.trans (hB2.mono hs)).trans (hN4.below.mono (Nat.le_refl _))))
      · rw [List.concat_eq_append] at h0
        subst h0
        have HP := Lib.hid (parse_open _ n (by rw [size_list]; exact hn) ms ys y (by rw [← HK.out]; exact hP.out))
        have e1 : (ys ++ [y]).length = ys.length + 1 := by simp
        clear hP HK
        rw [e1]
        clear e1 hol hol'
        go_wp2_with (first
          | (refine wpList_build_of rfl 53 #[] rfl zcells ?_ ?_; (exact built26nil)) | (refine wpList_store_own rfl 53 _ _ rfl _ _ rfl rfl 53 _ (hR) (row26 (d17 _ _ (zlen))) (rfl) (dcells_one _ _) ?_; intro w4 hO4 hN4))
        refine bodyPost_ret (v := .tuple #[.agg (zcells), .bool false]) (results_row_tmp rfl _ _ _ _ _ (0, 0) _ rfl (hO4) Try.underlying53 rfl (row26 (d17 _ _ (zlen))) _ rfl) rfl (dot_fail HP.out (hB.trans (hN4.below.mono (Nat.le_refl _))))
set_option maxRecDepth 100000 in
theorem dot_odd (s : ByteArray) (w : World) (hm : s.size ≤ maxLen) (h : (s.size : Int) % 2 ≠ 0) :
    Calls Try.prog 77 #[.string s] w (DotPost s w) := by
  have HP := Lib.hid (parse_size s.data.toList (.inl (by rw [size_list]; exact h)))
  unfold maxLen at hm
  have b : (((s.size : Int) % 2) != 0) = true := by simpa using h
  clear h
  go_enter Try.func77, Try.ntmps77
  go_wp2_with (first
    | (refine wpList_build_of rfl 53 #[] rfl zcells ?_ ?_; (exact built26nil)) | (refine wpList_store_own rfl 53 _ _ rfl _ _ rfl rfl 53 _ (Own.new w _ _) (row26 (d17 _ _ (zlen))) (rfl) (dcells_one _ _) ?_; intro w4 hO4 hN4))
  refine bodyPost_ret (v := .tuple #[.agg (zcells), .bool false]) (results_row_tmp rfl _ _ _ _ _ (0, 0) _ rfl (hO4) Try.underlying53 rfl (row26 (d17 _ _ (zlen))) _ rfl) rfl (dot_fail HP.out (((Below.refl _ _).alloc (Nat.le_refl _) _).trans (hN4.below.mono (Nat.le_refl _))))
set_option maxRecDepth 100000 in
theorem dot_size (s : ByteArray) (w : World) (hm : s.size ≤ maxLen) (h : (s.size : Int) % 2 = 0) (h2 : (s.size : Int) / 2 < 1 ∨ 8 < (s.size : Int) / 2) :
    Calls Try.prog 77 #[.string s] w (DotPost s w) := by
  have HP := Lib.hid (parse_size s.data.toList (.inr (by rw [size_list]; exact h2)))
  unfold maxLen at hm
  have b : (((s.size : Int) % 2) != 0) = false := by simpa using h
  have H2 := Lib.hid h2
  clear h h2
  go_enter Try.func77, Try.ntmps77
  go_wp2_with (first
    | (go_at_call 68; ((with_reducible refine (isSize_f _ _ H2.out).mono ?_); rintro e w0 ⟨rfl, rfl⟩))
    | (refine wpList_build_of rfl 53 #[] rfl zcells ?_ ?_; (exact built26nil)) | (refine wpList_store_own rfl 53 _ _ rfl _ _ rfl rfl 53 _ (Own.new w _ _) (row26 (d17 _ _ (zlen))) (rfl) (dcells_one _ _) ?_; intro w4 hO4 hN4))
  refine bodyPost_ret (v := .tuple #[.agg (zcells), .bool false]) (results_row_tmp rfl _ _ _ _ _ (0, 0) _ rfl (hO4) Try.underlying53 rfl (row26 (d17 _ _ (zlen))) _ rfl) rfl (dot_fail HP.out (((Below.refl _ _).alloc (Nat.le_refl _) _).trans (hN4.below.mono (Nat.le_refl _))))
theorem dot_any (s : ByteArray) (w : World) (hm : s.size ≤ maxLen) : Calls Try.prog 77 #[.string s] w (DotPost s w) := by
  by_cases h : (s.size : Int) % 2 = 0
  · by_cases h2 : 1 ≤ (s.size : Int) / 2 ∧ (s.size : Int) / 2 ≤ 8
    · exact dot_ok s ((s.size : Int) / 2) w (by omega) h2.1 h2.2
    · exact dot_size s w hm h (by omega)
  · exact dot_odd s w hm h
end Go.Proofs.Ytdmgmhjclagnpaa
