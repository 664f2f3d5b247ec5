/- The contract of the model's arcs of a text. -/
import Derived.Test.YtopenojociafaaaDoorArcM
import Derived.Test.YtopenojociafaaaDoorInts
import Derived.Test.YtopenojociafaaaDoorGma
import Derived.Test.YtopenojociafaaaDoorSpecC
namespace Go.Proofs.YtopenojociafaaaDoor
open Go.RowKit
theorem row8i {c : Array Value} (h : c.size = 8) : (Tryd.prog.info? 81).map (·.size) = some c.size := by
  rw [h]; kernel_rfl
theorem one8i (o : List Int) : (icells o).all (·.oneCell') = true := by simp [icells, Value.oneCell']
theorem i8s (o : List Int) (h : o.length = 8) : (icells o).size = 8 := by rw [icells_size, h]
theorem built8i : Tryd.prog.built 81 [] = some (icells z8) := by kernel_rfl
theorem i88 {o o' : List Int} (h : o.length = 8) (h' : o'.length = 8) : (icells o).size = (icells o').size := by rw [i8s _ h, i8s _ h']
theorem z8l : z8.length = 8 := rfl
theorem Ints.ne8 {w : World} {base g cap b : Nat} {xs : List Int} {cs : Array Value} (h : Ints w base g cap xs) (ho : Own w b cs 81) : b ≠ g := by
  obtain ⟨_, _, _, cur, hi, _⟩ := h
  intro e
  subst e
  have : some (Obj.cells cs 81 (0, 0)) = some (Obj.cells cur 2 (0, 0)) := (show w.heap[b]? = _ from ho).symm.trans hi
  simp at this
def ArcPost (s : ByteArray) (w : World) (e : Ending) (w' : World) : Prop := ∃ (o : List Int) (b : Bool), o.length = 8 ∧ e = .returned (.tuple #[.agg (icells o), .bool b]) ∧ (b = true → arcO s.data.toList = some o) ∧ (b = false → arcO s.data.toList = none) ∧ Below w.heap.size w w'
theorem arc_no {s : ByteArray} {w w' : World} {o : List Int} (hl : o.length = 8) (h : arcO s.data.toList = none) (hb : Below w.heap.size w w') : ArcPost s w (.returned (.tuple #[.agg (icells o), .bool false])) w' := ⟨o, false, hl, rfl, (fun h => by cases h), fun _ => h, hb⟩
theorem arc_yes {s : ByteArray} {w w' : World} {o : List Int} (hl : o.length = 8) (h : arcO s.data.toList = some o) (hb : Below w.heap.size w w') : ArcPost s w (.returned (.tuple #[.agg (icells o), .bool true])) w' := ⟨o, true, hl, rfl, fun _ => h, (fun h => by cases h), hb⟩
set_option maxRecDepth 100000 in
theorem arcs_size (s : ByteArray) (w : World) (hm : s.size ≤ 1048576) (h : s.size < 1 ∨ 8 < s.size) :
    Calls Tryd.prog 68 #[.string s] w (ArcPost s w) := by
  have HP := Lib.hid (arc_size s.data.toList (by rw [size_list]; exact h))
  have hmk := mk0
  by_cases c : s.size < 1
  · have c1 : (s.size : Int) < 1 := by omega
    clear h
    go_enter Tryd.func68, Tryd.ntmps68
    go_wp2_with (first
      | (refine wpList_build_of rfl 81 #[] rfl (icells z8) ?_ ?_; (exact built8i))
      | (refine wpList_load_row rfl 81 _ rfl _ rfl 81 _ (0, 0) _ (hO3) Tryd.underlying81 rfl (row8i (i8s _ (z8l))) ?_)
      | (refine wpList_store_own rfl 81 _ _ rfl _ _ rfl rfl 81 _ (Own.at _ _ _ (by simp)) (row8i (i8s _ (z8l))) (i88 z8l z8l) (one8i _) ?_; intro w3 hO3 hN3)
      | (refine wpList_store_own rfl 81 _ _ rfl _ _ rfl rfl 81 _ ((((Own.new w _ _).alloc _).alloc _).only hN3 (by simp; omega)) (row8i (i8s _ (z8l))) (i88 z8l z8l) (one8i _) ?_; intro w4 hO4 hN4))
    refine bodyPost_ret (v := .tuple #[.agg (icells z8), .bool false]) (results_row_tmp rfl _ _ _ _ _ (0, 0) _ rfl (hO4) Tryd.underlying81 rfl (row8i (i8s _ (z8l))) _ rfl) rfl (arc_no z8l HP.out (((((Below.refl _ _).alloc (Nat.le_refl _) _).alloc (by simp) _).alloc (by simp; omega) _).trans ((hN3.below.mono (by omega)).trans hN4.below)))
  · have c1 : ¬ (s.size : Int) < 1 := by omega
    have c2 : (8 : Int) < (s.size : Int) := by omega
    clear h
    go_enter Tryd.func68, Tryd.ntmps68
    go_wp2_with (first
      | (refine wpList_build_of rfl 81 #[] rfl (icells z8) ?_ ?_; (exact built8i))
      | (refine wpList_load_row rfl 81 _ rfl _ rfl 81 _ (0, 0) _ (hO3) Tryd.underlying81 rfl (row8i (i8s _ (z8l))) ?_)
      | (refine wpList_store_own rfl 81 _ _ rfl _ _ rfl rfl 81 _ (Own.at _ _ _ (by simp)) (row8i (i8s _ (z8l))) (i88 z8l z8l) (one8i _) ?_; intro w3 hO3 hN3)
      | (refine wpList_store_own rfl 81 _ _ rfl _ _ rfl rfl 81 _ ((((Own.new w _ _).alloc _).alloc _).only hN3 (by simp; omega)) (row8i (i8s _ (z8l))) (i88 z8l z8l) (one8i _) ?_; intro w4 hO4 hN4))
    refine bodyPost_ret (v := .tuple #[.agg (icells z8), .bool false]) (results_row_tmp rfl _ _ _ _ _ (0, 0) _ rfl (hO4) Tryd.underlying81 rfl (row8i (i8s _ (z8l))) _ rfl) rfl (arc_no z8l HP.out (((((Below.refl _ _).alloc (Nat.le_refl _) _).alloc (by simp) _).alloc (by simp; omega) _).trans ((hN3.below.mono (by omega)).trans hN4.below)))
set_option maxRecDepth 100000 in
set_option maxHeartbeats 1000000 in
theorem arcs_ok (s : ByteArray) (w : World) (h1 : 1 ≤ s.size) (h8 : s.size ≤ 8) :
    Calls Tryd.prog 68 #[.string s] w (ArcPost s w) := by
  have hmk := mk0
  have c1 : ¬ (s.size : Int) < 1 := by omega
  have c2 : ¬ (8 : Int) < (s.size : Int) := by omega
  go_enter Tryd.func68, Tryd.ntmps68
  go_wp2_with (first
    | (refine wpList_build_of rfl 81 #[] rfl (icells z8) ?_ ?_; (exact built8i))
    | (refine wpList_store_own rfl 81 _ _ rfl _ _ rfl rfl 81 _ (Own.at _ _ _ (by simp)) (row8i (i8s _ (z8l))) (i88 z8l z8l) (one8i _) ?_; intro w3 hO3 hN3))
  have hR3 : Own w3 w.heap.size (icells z8) 81 := (((Own.new w _ _).alloc _).alloc _).only hN3 (by omega)
  have hI3 : Ints w3 w.heap.size (w.heap.size + 1) 0 [] := (((Ints.new (w.alloc (.cells (icells z8) 81)) w.heap.size (w.heap.size + 1) 0 (by simp) (by simp) (by decide) #[] rfl).alloc _).only hN3 (by omega))
  have hB3 : Below w.heap.size w w3 := ((((Below.refl _ _).alloc (Nat.le_refl _) _).alloc (by simp) _).alloc (by simp; omega) _).trans (hN3.below.mono (by omega))
  have A1 := Lib.hid hO3
  have A2 := Lib.hid hR3
  have A3 := Lib.hid hI3
  have A4 := Lib.hid hB3
  clear hmk hO3 hR3 hI3 hB3 hN3
  go_wp2
  go_loopw [5, 6] (fun v i wr => ∃ (k : Nat) (o : List Int) (st : List Nat) (g cap : Nat), k ≤ s.size ∧ i = .int .i64 k ∧ v = .slice (some ⟨g, 0, none⟩) st.length cap ∧ Hid (ast s.data.toList k = some (o, st)) ∧ Own wr (w.heap.size + 1 + 1) (icells o) 81 ∧ Own wr w.heap.size (icells z8) 81 ∧ Ints wr w.heap.size g cap (st.map (fun y : Nat => (y : Int))) ∧ Below w.heap.size w wr) (fun _ i _ => (s.size - intOf i).toNat)
  case atStart => exact ⟨0, z8, [], _, _, by omega, rfl, rfl, Lib.hid rfl, A1.out, A2.out, A3.out, A4.out⟩
  case round =>
    clear A1 A2 A3 A4
    obtain ⟨k, o, st, g, cap, hk, rfl, rfl, hP, hO, hR, hI, hB⟩ := hrel
    obtain ⟨hl, hol, hop⟩ := ast_len _ _ _ _ hP.out
    have hol' : st.length ≤ 8 := by omega
    have hs := hB.size
    have hl := Lib.hid hl
    have hop := Lib.hid hop
    have hlz := Lib.hid z8l
    by_cases hlt : k < s.size
    · have hltI : (k : Int) < s.size := by omega
      have HG := Lib.hid (get_list s k hlt)
      have HB := Lib.hid (fun (h : ast s.data.toList (k + 1) = none) => arc_bad s.data.toList (k + 1) (by rw [size_list]; omega) h)
      by_cases c40 : s[k] = 40
      · have b40 : ((s[k].toNat : Int) == 40) = true := by rw [c40]; rfl
        have HP := Lib.hid (ast_open _ _ _ _ hP.out (by rw [HG.out, c40]))
        clear c40 hP
        go_wp2_with (first
          | (refine wpList_append_ints rfl (.tmp 31) (.tmp 33) rfl w.heap.size g cap (st.map (fun y : Nat => (y : Int))) (k : Int) (by simp [ival]; rfl) (hI.alloc _) ⟨wr.heap.size, 0, none⟩ 1 rfl ((Own.new _ _ _).cell 0) (by simp; omega) (by have := hR.lt; simp; omega) ?_; intro g2 cap2 w2 hI2 hG2))
        have hO2 := (hO.alloc _).grown hG2 (hI.ne8 hO)
        have hR2 := (hR.alloc _).grown hG2 (hI.ne8 hR)
        have hB2 : Below w.heap.size w w2 := (hB.alloc hs _).grown hG2 (by simp; omega) (fun k e => by have := hI.1; simp at e; omega)
        have hI3 : Ints w2 w.heap.size g2 cap2 ((st ++ [k]).map (fun y : Nat => (y : Int))) := by rw [List.map_append]; exact hI2
        clear hO hR hB hI hG2 hI2
        go_wp2
        go_roundw
        case rel => exact ⟨k + 1, o, st ++ [k], g2, cap2, by omega, by go_num, by simp [ival], HP, hO2, hR2, hI3, hB2⟩
        case measure => simp [intOf] <;> omega
      · have b40 : ((s[k].toNat : Int) == 40) = false := byte_ne s[k] 40 c40
        have n40 := Lib.hid (show s.data.toList[k]? ≠ some 40 by rw [HG.out]; simpa using c40)
        by_cases c41 : s[k] = 41
        · have b41 : ((s[k].toNat : Int) == 41) = true := by rw [c41]; rfl
          have n41 := Lib.hid (show s.data.toList[k]? = some 41 by rw [HG.out, c41])
          clear c40 c41
          rcases List.eq_nil_or_concat st with h0 | ⟨ys, y, h0⟩
          · subst h0
            have HP := Lib.hid (HB.out (ast_empty _ _ _ hP.out n41.out))
            clear hP
            go_wp2_with (first
              | (refine wpList_load_row rfl 81 _ rfl _ rfl 81 _ (0, 0) _ (hO) Tryd.underlying81 rfl (row8i (i8s _ (hl.out))) ?_)
              | (refine wpList_store_own rfl 81 _ _ rfl _ _ rfl rfl 81 _ (hR) (row8i (i8s _ (hl.out))) (i88 hlz.out hl.out) (one8i _) ?_; intro w4 hO4 hN4))
            refine bodyPost_ret (v := .tuple #[.agg (icells o), .bool false]) (results_row_tmp rfl _ _ _ _ _ (0, 0) _ rfl (hO4) Tryd.underlying81 rfl (row8i (i8s _ (hl.out))) _ rfl) rfl (arc_no hl.out HP.out (hB.trans (hN4.below.mono (Nat.le_refl _))))
          · rw [List.concat_eq_append] at h0
            subst h0
            have hy := hop.out y (by simp)
            have HP := Lib.hid (ast_close _ _ _ _ _ hP.out n41.out)
            clear hP hop
            rw [List.map_append] at hI
            have e1 : (ys ++ [y]).length = ys.length + 1 := by simp
            have hc : wr.cell? ⟨g, ys.length, none⟩ = some (.int .i64 (y : Int)) := by
              rw [hI.cell ys.length (by simp)]
              simp
            have hcap : ys.length + 1 ≤ cap := by have := hI.2.1; simpa using this
            rw [e1] at hol hol'
            have hI2 := hI.pop
            have hg8 := hI.ne8 hO
            clear hI
            rw [e1]
            clear e1
            have d1 : wr.cell? ⟨w.heap.size + 1 + 1, y, none⟩ = some (.int .i64 (o.getD y 0)) := by rw [hO.cell, icells_get _ _ (by rw [hl.out]; omega)]
            have d2 : (wr.setCell ⟨w.heap.size + 1 + 1, y, none⟩ (.int .i64 (k : Int))).cell? ⟨w.heap.size + 1 + 1, k, none⟩ = some (.int .i64 ((o.set y (k : Int)).getD k 0)) := by rw [(hO.set _ _).cell, icells_set, icells_get _ _ (by rw [List.length_set, hl.out]; omega)]
            have f1 := hO.free y
            have f2 := (hO.set y (.int .i64 (k : Int))).free k
            have hO2 : Own ((wr.setCell ⟨w.heap.size + 1 + 1, y, none⟩ (.int .i64 (k : Int))).setCell ⟨w.heap.size + 1 + 1, k, none⟩ (.int .i64 (y : Int))) (w.heap.size + 1 + 1) (icells ((o.set y (k : Int)).set k (y : Int))) 81 := by
              have := (hO.set y (.int .i64 (k : Int))).set k (.int .i64 (y : Int))
              rw [icells_set, icells_set] at this; exact this
            have hN2 : Only (w.heap.size + 1 + 1) wr ((wr.setCell ⟨w.heap.size + 1 + 1, y, none⟩ (.int .i64 (k : Int))).setCell ⟨w.heap.size + 1 + 1, k, none⟩ (.int .i64 (y : Int))) := (Only.set _ _ _ _).trans (Only.set _ _ _ _)
            have hR2 := hR.only hN2 (by omega)
            have hI3 := hI2.only hN2 (fun e => hg8 e.symm)
            have hB2 := hB.trans (hN2.below.mono (by omega))
            have K1 := Lib.hid hO2
            have K2 := Lib.hid hR2
            have K3 := Lib.hid hI3
            have K4 := Lib.hid hB2
            have hk8 : k < 8 := by omega
            have hy8 : y < 8 := by omega
            clear hO2 hR2 hI3 hB2 hN2 hO hR hI2 hB
            go_wp2
            go_roundw
            case rel => exact ⟨k + 1, _, ys, g, cap, by omega, by go_num, rfl, HP, K1.out, K2.out, K3.out, K4.out⟩
            case measure => simp [intOf] <;> omega
        · have b41 : ((s[k].toNat : Int) == 41) = false := byte_ne s[k] 41 c41
          have n41 := Lib.hid (show s.data.toList[k]? ≠ some 41 by rw [HG.out]; simpa using c41)
          by_cases c124 : s[k] = 124
          · have b124 : ((s[k].toNat : Int) == 124) = true := by rw [c124]; rfl
            have n124 := Lib.hid (show s.data.toList[k]? = some 124 by rw [HG.out, c124])
            clear c40 c41 c124
            rcases List.eq_nil_or_concat st with h0 | ⟨ys, y, h0⟩
            · subst h0
              have HP := Lib.hid (ast_point _ _ _ hP.out n124.out)
              have d1 : wr.cell? ⟨w.heap.size + 1 + 1, k, none⟩ = some (.int .i64 (o.getD k 0)) := by rw [hO.cell, icells_get _ _ (by rw [hl.out]; omega)]
              have f1 := hO.free k
              have hO2 : Own (wr.setCell ⟨w.heap.size + 1 + 1, k, none⟩ (.int .i64 (k : Int))) (w.heap.size + 1 + 1) (icells (o.set k (k : Int))) 81 := by
                have := hO.set k (.int .i64 (k : Int))
                rw [icells_set] at this; exact this
              have hN2 : Only (w.heap.size + 1 + 1) wr (wr.setCell ⟨w.heap.size + 1 + 1, k, none⟩ (.int .i64 (k : Int))) := Only.set _ _ _ _
              have K1 := Lib.hid hO2
              have K2 := Lib.hid (hR.only hN2 (by omega))
              have K3 := Lib.hid (hI.only hN2 (fun e => (hI.ne8 hO) e.symm))
              have K4 := Lib.hid (hB.trans (hN2.below.mono (by omega)))
              have hk8 : k < 8 := by omega
              clear hP hO2 hN2 hO hR hI hB
              go_wp2
              go_roundw
              case rel => exact ⟨k + 1, _, [], g, cap, by omega, by go_num, rfl, HP, K1.out, K2.out, K3.out, K4.out⟩
              case measure => simp [intOf] <;> omega
            · rw [List.concat_eq_append] at h0
              subst h0
              have HP := Lib.hid (HB.out (ast_under _ _ _ _ _ hP.out n124.out))
              have e1 : (ys ++ [y]).length = ys.length + 1 := by simp
              clear hP
              rw [e1]
              clear e1 hol hol'
              go_wp2_with (first
                | (refine wpList_load_row rfl 81 _ rfl _ rfl 81 _ (0, 0) _ (hO) Tryd.underlying81 rfl (row8i (i8s _ (hl.out))) ?_)
                | (refine wpList_store_own rfl 81 _ _ rfl _ _ rfl rfl 81 _ (hR) (row8i (i8s _ (hl.out))) (i88 hlz.out hl.out) (one8i _) ?_; intro w4 hO4 hN4))
              refine bodyPost_ret (v := .tuple #[.agg (icells o), .bool false]) (results_row_tmp rfl _ _ _ _ _ (0, 0) _ rfl (hO4) Tryd.underlying81 rfl (row8i (i8s _ (hl.out))) _ rfl) rfl (arc_no hl.out HP.out (hB.trans (hN4.below.mono (Nat.le_refl _))))
          · have b124 : ((s[k].toNat : Int) == 124) = false := byte_ne s[k] 124 c124
            have HP := Lib.hid (HB.out (ast_other _ _ _ _ hP.out n40.out n41.out (by rw [HG.out]; simpa using c124)))
            clear c40 c41 c124 hP
            go_wp2_with (first
              | (refine wpList_load_row rfl 81 _ rfl _ rfl 81 _ (0, 0) _ (hO) Tryd.underlying81 rfl (row8i (i8s _ (hl.out))) ?_)
              | (refine wpList_store_own rfl 81 _ _ rfl _ _ rfl rfl 81 _ (hR) (row8i (i8s _ (hl.out))) (i88 hlz.out hl.out) (one8i _) ?_; intro w4 hO4 hN4))
            refine bodyPost_ret (v := .tuple #[.agg (icells o), .bool false]) (results_row_tmp rfl _ _ _ _ _ (0, 0) _ rfl (hO4) Tryd.underlying81 rfl (row8i (i8s _ (hl.out))) _ rfl) rfl (arc_no hl.out HP.out (hB.trans (hN4.below.mono (Nat.le_refl _))))
    · have HK := Lib.hid (show k = s.data.toList.length by rw [size_list]; omega)
      have HL := Lib.hid (size_list s)
      rcases List.eq_nil_or_concat st with h0 | ⟨ys, y, h0⟩
      · subst h0
        have HP := Lib.hid (arc_some s.data.toList (by rw [HL.out]; omega) (by rw [HL.out]; omega) o (by rw [← HK.out]; exact hP.out))
        clear hP
        go_wp2_with (first
          | (refine wpList_load_row rfl 81 _ rfl _ rfl 81 _ (0, 0) _ (hO) Tryd.underlying81 rfl (row8i (i8s _ (hl.out))) ?_)
          | (refine wpList_store_own rfl 81 _ _ rfl _ _ rfl rfl 81 _ (hR) (row8i (i8s _ (hl.out))) (i88 hlz.out hl.out) (one8i _) ?_; intro w4 hO4 hN4))
        refine bodyPost_ret (v := .tuple #[.agg (icells o), .bool true]) (results_row_tmp rfl _ _ _ _ _ (0, 0) _ rfl (hO4) Tryd.underlying81 rfl (row8i (i8s _ (hl.out))) _ rfl) rfl (arc_yes hl.out HP.out (hB.trans (hN4.below.mono (Nat.le_refl _))))
      · rw [List.concat_eq_append] at h0
        subst h0
        have HP := Lib.hid (arc_open s.data.toList o ys y (by rw [← HK.out]; exact hP.out))
        have e1 : (ys ++ [y]).length = ys.length + 1 := by simp
        clear hP
        rw [e1]
        clear e1 hol hol'
        go_wp2_with (first
          | (refine wpList_load_row rfl 81 _ rfl _ rfl 81 _ (0, 0) _ (hO) Tryd.underlying81 rfl (row8i (i8s _ (hl.out))) ?_)
          | (refine wpList_store_own rfl 81 _ _ rfl _ _ rfl rfl 81 _ (hR) (row8i (i8s _ (hl.out))) (i88 hlz.out hl.out) (one8i _) ?_; intro w4 hO4 hN4))
        refine bodyPost_ret (v := .tuple #[.agg (icells o), .bool false]) (results_row_tmp rfl _ _ _ _ _ (0, 0) _ rfl (hO4) Tryd.underlying81 rfl (row8i (i8s _ (hl.out))) _ rfl) rfl (arc_no hl.out HP.out (hB.trans (hN4.below.mono (Nat.le_refl _))))
theorem arcs_any (s : ByteArray) (w : World) (hm : s.size ≤ 1048576) : Calls Tryd.prog 68 #[.string s] w (ArcPost s w) := by
  by_cases h : s.size < 1 ∨ 8 < s.size
  · exact arcs_size s w hm h
  · exact arcs_ok s w (by omega) (by omega)
end Go.Proofs.YtopenojociafaaaDoor
