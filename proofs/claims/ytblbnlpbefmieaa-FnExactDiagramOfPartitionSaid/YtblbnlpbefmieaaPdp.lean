/- The law of DiagramOfPartition. -/
import Derived.Test.YtblbnlpbefmieaaPai
import Derived.Test.YtblbnlpbefmieaaLawPw
namespace Go.Proofs.Ytblbnlpbefmieaa
open Go.RowKit
set_option linter.unusedVariables false
/-- The mates, behind the points before i and k of those before it. -/
def djI (ms : List Int) (i : Nat) (L : List Int) : Nat → List Int
  | 0 => L
  | k + 1 => if ms.getD i 0 = ms.getD k 0 then joinL (djI ms i L k) (k : Int) (i : Int) else djI ms i L k
def djO (ms : List Int) : Nat → List Int
  | 0 => zeros
  | i + 1 => djI ms i (djO ms i) i
theorem djI_yes (ms : List Int) (i : Nat) (L : List Int) (k : Nat) (h : ms.getD i 0 = ms.getD k 0) : djI ms i L (k + 1) = joinL (djI ms i L k) (k : Int) (i : Int) := by rw [djI, if_pos h]
theorem djI_no (ms : List Int) (i : Nat) (L : List Int) (k : Nat) (h : ¬ ms.getD i 0 = ms.getD k 0) : djI ms i L (k + 1) = djI ms i L k := by rw [djI, if_neg h]
theorem djI_len (ms : List Int) (i : Nat) (L : List Int) (h : L.length = 16) (k : Nat) : (djI ms i L k).length = 16 := by
  induction k with
  | zero => exact h
  | succ k ih => unfold djI; split; exact (joinL_len _ _ _).trans ih; exact ih
theorem djO_len (ms : List Int) (i : Nat) : (djO ms i).length = 16 := by
  induction i with
  | zero => exact zlen
  | succ i ih => exact djI_len _ _ _ ih _
theorem joinL_comm (L : List Int) (i k : Nat) (h : k < i) : joinL L (i : Int) (k : Int) = joinL L (k : Int) (i : Int) := by
  unfold joinL
  simp only [Int.toNat_natCast]
  rw [List.set_comm]
  omega
set_option maxRecDepth 100000 in
set_option maxHeartbeats 8000000 in
theorem dpS_ok (N : Nat) (ms : List Int) (hms : ms.length = 8) (hb : Bytes ms) (hd : isP N ms = true) (hc : ¬ Crs (arZ N ms N (2 * N)) (2 * N)) (hp : kd fPair (upL N ms (2 * N)) (loL N ms (2 * N)) (parN ms N) = true) (w : World) (h1 : 1 ≤ N) (h4 : N ≤ 4) :
    Calls Try.prog 19 #[.agg (dcells N ms)] w fun e w' => e = .returned (.tuple #[.agg (dcells N (djO ms (2 * N))), .int .i64 0]) ∧ Below w.heap.size w w' := by
  have hl := Lib.hid hms
  have hnum := isP_nums hms hd
  have hcl := Lib.hid (fun w => isPS_any N ms hms hb w)
  rw [hd] at hcl
  have hkn := Lib.hid (fun w => kindsS_any N ms hms hnum true (by simpa using hc) w h1 h4)
  rw [hp] at hkn
  generalize kd fSmall (upL N ms (2 * N)) (loL N ms (2 * N)) (parN ms N) = b2 at *
  generalize kd fRook (upL N ms (2 * N)) (loL N ms (2 * N)) (parN ms N) = b3 at *
  generalize kd fIdeal (upL N ms (2 * N)) (loL N ms (2 * N)) (parN ms N) = b4 at *
  generalize kd fUni (upL N ms (2 * N)) (loL N ms (2 * N)) (parN ms N) = b5 at *
  have c0 := dcells_zero N ms
  have hdl := Lib.hid (djO_len ms)
  have hil := Lib.hid (fun i k => djI_len ms i (djO ms i) (djO_len ms i) k)
  clear hms hb hd hc hp hnum
  go_enter Try.func19, Try.ntmps19
  go_wp2_with (first
    | (refine wpList_load_row rfl 28 _ rfl _ rfl 28 _ (0, 0) _ ((Own.new _ _ _).alloc _) Try.underlying28 rfl (rowP (d9 _ _ (hl.out))) ?_)
    | (go_at_call 79; ((with_reducible refine (hcl.out _).mono ?_); rintro e w1 ⟨rfl, hB1⟩; have hO1 : Own w1 w.heap.size (dcells N ms) 28 := ((Own.new _ _ _).alloc _).below hB1 (by simp <;> omega); have hR1 : Own w1 (w.heap.size + 1) zcells 35 := (Own.at _ _ _ (by simp)).below hB1 (by simp); have hBw : Below w.heap.size w w1 := (((Below.refl w.heap.size w).alloc (Nat.le_refl _) _).alloc (by simp) _).trans (hB1.mono (by simp <;> omega)); clear hB1))
    | (refine wpList_load_row rfl 28 _ rfl _ rfl 28 _ (0, 0) _ (hO1) Try.underlying28 rfl (rowP (d9 _ _ (hl.out))) ?_)
    | (go_at_call 80; ((with_reducible refine (hkn.out _).mono ?_); rintro e w2 ⟨gk, rfl, hgk, hG2, hB2⟩; have hO2 := hO1.below hB2 hO1.lt; have hR2 := hR1.below hB2 hR1.lt; have hB3 := hBw.trans (hB2.mono hBw.size); have g0 := hG2.cell 0; have g1 := hG2.cell 1; rw [show (kcells true true b2 b3 b4 b5)[0]? = some (.bool true) from rfl] at g0; rw [show (kcells true true b2 b3 b4 b5)[1]? = some (.bool true) from rfl] at g1; have k0 := (hO2.cell 0).trans c0; clear hB2))
    | (refine wpList_build_of rfl 35 #[(0, .tmp 26)] rfl (dcells N zeros) ?_ ?_; (exact built26one _))
    | (refine wpList_store_own rfl 35 _ _ rfl _ _ rfl rfl 35 _ (Own.new w2 _ _) (row26 (d17 _ _ (zlen))) (d17 _ _ zlen) (dcells_one _ _) ?_; intro w3 hO3 hN3))
  have HO1 := Lib.hid (show Own w3 w.heap.size (dcells N ms) 28 from (hO2.alloc _).only hN3 (Nat.ne_of_lt hO2.lt))
  have HR1 := Lib.hid (show Own w3 (w.heap.size + 1) zcells 35 from (hR2.alloc _).only hN3 (Nat.ne_of_lt hR2.lt))
  have HD1 := Lib.hid (show Own w3 w2.heap.size (dcells N (djO ms 0)) 35 from hO3)
  have HB1 := Lib.hid (show Below w.heap.size w w3 from (hB3.alloc hB3.size _).trans (hN3.below.mono hB3.size))
  have n1 := Nat.ne_of_lt hO2.lt
  have n2 := Nat.ne_of_lt hR2.lt
  have n3 := hB3.size
  clear hO3 hN3 k0 hO2 hR2 hB3 hO1 hR1 hBw hG2 g0 g1
  generalize w2.heap.size = gd at *
  go_loopw [6] (fun v wr => ∃ i : Nat, i ≤ 2 * N ∧ v = .int .i64 (i : Int) ∧ Own wr w.heap.size (dcells N ms) 28 ∧ Own wr (w.heap.size + 1) zcells 35 ∧ Own wr gd (dcells N (djO ms i)) 35 ∧ Below w.heap.size w wr) (fun v _ => (2 * (N : Int) - intOf v).toNat)
  case atStart => exact ⟨0, by omega, by go_num, HO1.out, HR1.out, HD1.out, HB1.out⟩
  case round =>
    clear HO1 HR1 HD1 HB1
    obtain ⟨i, hi, rfl, hO, hR, hD, hB⟩ := hrel
    have k0 := (hO.cell 0).trans c0
    by_cases hlt : i < 2 * N
    · have i1 : (i : Int) < 2 * (N : Int) := by omega
      have HO := Lib.hid hO
      have HR := Lib.hid hR
      have HD := Lib.hid hD
      have HB := Lib.hid hB
      clear hO hR hD hB
      go_wp2
      clear k0
      go_loopw [7] (fun v wr => ∃ k : Nat, k ≤ i ∧ v = .int .i64 (k : Int) ∧ Own wr w.heap.size (dcells N ms) 28 ∧ Own wr (w.heap.size + 1) zcells 35 ∧ Own wr gd (dcells N (djI ms i (djO ms i) k)) 35 ∧ Below w.heap.size w wr) (fun v _ => ((i : Int) - intOf v).toNat)
      case atStart => exact ⟨0, by omega, by go_num, HO.out, HR.out, HD.out, HB.out⟩
      case round =>
        clear HO HR HD HB
        obtain ⟨k, hk, rfl, hO, hR, hD, hB⟩ := hrel
        have hDl := Lib.hid (hil.out i k)
        by_cases hlk : k < i
        · have j1 : (k : Int) < (i : Int) := by omega
          have j2 : (i : Int) < 8 := by omega
          have j3 : (k : Int) < 8 := by omega
          have c1 := hO.cell (1 + i)
          rw [dcells_get _ _ _ (by rw [hl.out]; omega)] at c1
          have c2 := hO.cell (1 + k)
          rw [dcells_get _ _ _ (by rw [hl.out]; omega)] at c2
          have HO := Lib.hid hO
          have HR := Lib.hid hR
          have HD := Lib.hid hD
          have HB := Lib.hid hB
          clear hO hR hD hB
          by_cases he : ms.getD i 0 = ms.getD k 0
          · have hst : djI ms i (djO ms i) (k + 1) = joinL (djI ms i (djO ms i) k) (i : Int) (k : Int) := by rw [joinL_comm _ i k hlk]; exact djI_yes ms i _ k he
            have HST := Lib.hid hst
            have hjn := Lib.hid (fun w => joinS_any (N : Int) (djI ms i (djO ms i) k) hDl.out (i : Int) (k : Int) w (by omega) (by omega) (by omega) (by omega))
            rw [← HST.out] at hjn
            have hD2 := Lib.hid (hil.out i (k + 1))
            rw [← he] at c2
            clear hst he HST
            generalize ms.getD i 0 = x at *
            have hxx : (x == x) = true := by simp
            go_wp2
            go_quiet (fail)
            have HO3 := Lib.hid (HO.out.drewN nq)
            have HR3 := Lib.hid (HR.out.drewN nq)
            have HD3 := Lib.hid (HD.out.drewN nq)
            have HB3 := Lib.hid (Below.drewN HB.out nq)
            clear c1 c2 HO HR HD HB hxx
            generalize wr.drewN nq = wq at *
            go_wp2_with (first
              | (refine wpList_load_row rfl 35 _ rfl _ rfl 35 _ (0, 0) _ (HD3.out) Try.underlying35 rfl (row26 (d17 _ _ (hDl.out))) ?_)
              | (go_at_call 83; ((with_reducible refine (hjn.out _).mono ?_); rintro e w4 ⟨rfl, hB4⟩))
              | (refine wpList_store_own rfl 35 _ _ rfl _ _ rfl rfl 35 _ (HD3.out.below hB4 HD3.out.lt) (row26 (d17 _ _ (hD2.out))) (dd _ _ _ _ hDl.out hD2.out) (dcells_one _ _) ?_; intro w5 hO5 hN5))
            have HO6 := Lib.hid ((HO3.out.below hB4 HO3.out.lt).only hN5 n1)
            have HR6 := Lib.hid ((HR3.out.below hB4 HR3.out.lt).only hN5 n2)
            have HD6 := Lib.hid hO5
            have HB6 := Lib.hid (show Below w.heap.size w w5 from (HB3.out.trans (hB4.mono HB3.out.size)).trans (hN5.below.mono n3))
            clear HO3 HR3 HD3 HB3 hB4 hN5 hO5
            go_wp2
            go_roundw
            case rel => exact ⟨k + 1, by omega, by go_num, HO6.out, HR6.out, HD6.out, HB6.out⟩
            case measure => simp [intOf] <;> omega
          · have HST := Lib.hid (show djI ms i (djO ms i) (k + 1) = djI ms i (djO ms i) k from djI_no ms i _ k he)
            have hyx : (ms.getD i 0 == ms.getD k 0) = false := by simpa using he
            clear he
            generalize ms.getD i 0 = x at *
            generalize ms.getD k 0 = y at *
            go_wp2
            go_quiet (fail)
            have HO3 := Lib.hid (HO.out.drewN nq)
            have HR3 := Lib.hid (HR.out.drewN nq)
            have HD3 := Lib.hid (HD.out.drewN nq)
            have HB3 := Lib.hid (Below.drewN HB.out nq)
            clear c1 c2 HO HR HD HB hyx
            generalize wr.drewN nq = wq at *
            go_wp2
            go_roundw
            case rel => exact ⟨k + 1, by omega, by go_num, HO3.out, HR3.out, by rw [HST.out]; exact HD3.out, HB3.out⟩
            case measure => simp [intOf] <;> omega
        · obtain rfl : k = i := by omega
          have HO := Lib.hid hO
          have HR := Lib.hid hR
          have HD := Lib.hid (show Own wr gd (dcells N (djO ms (k + 1))) 35 from hD)
          have HB := Lib.hid hB
          clear hO hR hD hB
          go_wp2
          go_roundw
          case rel => exact ⟨k + 1, by omega, by go_num, HO.out, HR.out, HD.out, HB.out⟩
          case measure => simp [intOf] <;> omega
    · obtain rfl : i = 2 * N := by omega
      have hDl := Lib.hid (hdl.out (2 * N))
      have HD := Lib.hid hD
      go_wp2_with (first
        | (refine wpList_load_row rfl 35 _ rfl _ rfl 35 _ (0, 0) _ (HD.out) Try.underlying35 rfl (row26 (d17 _ _ (hDl.out))) ?_)
        | (refine wpList_store_own rfl 35 _ _ rfl _ _ rfl rfl 35 _ (hR) (row26 (d17 _ _ (hDl.out))) (z_eq (d17 _ _ hDl.out)) (dcells_one _ _) ?_; intro w4 hO4 hN4))
      refine bodyPost_ret (v := .tuple #[.agg (dcells N (djO ms (2 * N))), .int .i64 0]) (results_row_tmp rfl _ _ _ _ _ (0, 0) _ rfl (hO4) Try.underlying35 rfl (row26 (d17 _ _ (hDl.out))) _ rfl) rfl (⟨rfl, hB.trans (hN4.below.mono (by omega))⟩)
set_option maxRecDepth 100000 in
set_option maxHeartbeats 4000000 in
theorem dpS_cr (N : Nat) (ms : List Int) (hms : ms.length = 8) (hb : Bytes ms) (hd : isP N ms = true) (hc : Crs (arZ N ms N (2 * N)) (2 * N)) (w : World) (h1 : 1 ≤ N) (h4 : N ≤ 4) :
    Calls Try.prog 19 #[.agg (dcells N ms)] w fun e w' => e = .returned (.tuple #[.agg zcells, .int .i64 5]) ∧ Below w.heap.size w w' := by
  have hl := Lib.hid hms
  have hnum := isP_nums hms hd
  have hcl := Lib.hid (fun w => isPS_any N ms hms hb w)
  rw [hd] at hcl
  have hkn := Lib.hid (fun w => kindsS_any N ms hms hnum false (by simpa using hc) w h1 h4)
  generalize kd fPair (upL N ms (2 * N)) (loL N ms (2 * N)) (parN ms N) = b1 at *
  generalize kd fSmall (upL N ms (2 * N)) (loL N ms (2 * N)) (parN ms N) = b2 at *
  generalize kd fRook (upL N ms (2 * N)) (loL N ms (2 * N)) (parN ms N) = b3 at *
  generalize kd fIdeal (upL N ms (2 * N)) (loL N ms (2 * N)) (parN ms N) = b4 at *
  generalize kd fUni (upL N ms (2 * N)) (loL N ms (2 * N)) (parN ms N) = b5 at *
  clear hms hb hd hc hnum
  go_enter Try.func19, Try.ntmps19
  go_wp2_with (first
    | (refine wpList_load_row rfl 28 _ rfl _ rfl 28 _ (0, 0) _ ((Own.new _ _ _).alloc _) Try.underlying28 rfl (rowP (d9 _ _ (hl.out))) ?_)
    | (go_at_call 79; ((with_reducible refine (hcl.out _).mono ?_); rintro e w1 ⟨rfl, hB1⟩; have hO1 : Own w1 w.heap.size (dcells N ms) 28 := ((Own.new _ _ _).alloc _).below hB1 (by simp <;> omega); have hR1 : Own w1 (w.heap.size + 1) zcells 35 := (Own.at _ _ _ (by simp)).below hB1 (by simp); have hBw : Below w.heap.size w w1 := (((Below.refl w.heap.size w).alloc (Nat.le_refl _) _).alloc (by simp) _).trans (hB1.mono (by simp <;> omega)); clear hB1))
    | (refine wpList_load_row rfl 28 _ rfl _ rfl 28 _ (0, 0) _ (hO1) Try.underlying28 rfl (rowP (d9 _ _ (hl.out))) ?_)
    | (go_at_call 80; ((with_reducible refine (hkn.out _).mono ?_); rintro e w2 ⟨gk, rfl, hgk, hG2, hB2⟩; have hR2 := hR1.below hB2 hR1.lt; have hB3 := hBw.trans (hB2.mono hBw.size); have g0 := hG2.cell 0; have g1 := hG2.cell 1; rw [show (kcells false b1 b2 b3 b4 b5)[0]? = some (.bool false) from rfl] at g0; rw [show (kcells false b1 b2 b3 b4 b5)[1]? = some (.bool b1) from rfl] at g1; clear hB2))
    | (refine wpList_build_of rfl 35 #[] rfl zcells ?_ ?_; (exact built26nil))
    | (refine wpList_store_own rfl 35 _ _ rfl _ _ rfl rfl 35 _ (hR2) (row26 (d17 _ _ (zlen))) (rfl) (dcells_one _ _) ?_; intro w4 hO4 hN4))
  refine bodyPost_ret (v := .tuple #[.agg (zcells), .int .i64 5]) (results_row_tmp rfl _ _ _ _ _ (0, 0) _ rfl (hO4) Try.underlying35 rfl (row26 (d17 _ _ (zlen))) _ rfl) rfl (⟨rfl, hB3.trans (hN4.below.mono (by omega))⟩)
set_option maxRecDepth 100000 in
set_option maxHeartbeats 4000000 in
theorem dpS_np (N : Nat) (ms : List Int) (hms : ms.length = 8) (hb : Bytes ms) (hd : isP N ms = true) (hc : ¬ Crs (arZ N ms N (2 * N)) (2 * N)) (hp : kd fPair (upL N ms (2 * N)) (loL N ms (2 * N)) (parN ms N) = false) (w : World) (h1 : 1 ≤ N) (h4 : N ≤ 4) :
    Calls Try.prog 19 #[.agg (dcells N ms)] w fun e w' => e = .returned (.tuple #[.agg zcells, .int .i64 5]) ∧ Below w.heap.size w w' := by
  have hl := Lib.hid hms
  have hnum := isP_nums hms hd
  have hcl := Lib.hid (fun w => isPS_any N ms hms hb w)
  rw [hd] at hcl
  have hkn := Lib.hid (fun w => kindsS_any N ms hms hnum true (by simpa using hc) w h1 h4)
  rw [hp] at hkn
  generalize kd fSmall (upL N ms (2 * N)) (loL N ms (2 * N)) (parN ms N) = b2 at *
  generalize kd fRook (upL N ms (2 * N)) (loL N ms (2 * N)) (parN ms N) = b3 at *
  generalize kd fIdeal (upL N ms (2 * N)) (loL N ms (2 * N)) (parN ms N) = b4 at *
  generalize kd fUni (upL N ms (2 * N)) (loL N ms (2 * N)) (parN ms N) = b5 at *
  clear hms hb hd hc hp hnum
  go_enter Try.func19, Try.ntmps19
  go_wp2_with (first
    | (refine wpList_load_row rfl 28 _ rfl _ rfl 28 _ (0, 0) _ ((Own.new _ _ _).alloc _) Try.underlying28 rfl (rowP (d9 _ _ (hl.out))) ?_)
    | (go_at_call 79; ((with_reducible refine (hcl.out _).mono ?_); rintro e w1 ⟨rfl, hB1⟩; have hO1 : Own w1 w.heap.size (dcells N ms) 28 := ((Own.new _ _ _).alloc _).below hB1 (by simp <;> omega); have hR1 : Own w1 (w.heap.size + 1) zcells 35 := (Own.at _ _ _ (by simp)).below hB1 (by simp); have hBw : Below w.heap.size w w1 := (((Below.refl w.heap.size w).alloc (Nat.le_refl _) _).alloc (by simp) _).trans (hB1.mono (by simp <;> omega)); clear hB1))
    | (refine wpList_load_row rfl 28 _ rfl _ rfl 28 _ (0, 0) _ (hO1) Try.underlying28 rfl (rowP (d9 _ _ (hl.out))) ?_)
    | (go_at_call 80; ((with_reducible refine (hkn.out _).mono ?_); rintro e w2 ⟨gk, rfl, hgk, hG2, hB2⟩; have hR2 := hR1.below hB2 hR1.lt; have hB3 := hBw.trans (hB2.mono hBw.size); have g0 := hG2.cell 0; have g1 := hG2.cell 1; rw [show (kcells true false b2 b3 b4 b5)[0]? = some (.bool true) from rfl] at g0; rw [show (kcells true false b2 b3 b4 b5)[1]? = some (.bool false) from rfl] at g1; clear hB2))
    | (refine wpList_build_of rfl 35 #[] rfl zcells ?_ ?_; (exact built26nil))
    | (refine wpList_store_own rfl 35 _ _ rfl _ _ rfl rfl 35 _ (hR2) (row26 (d17 _ _ (zlen))) (rfl) (dcells_one _ _) ?_; intro w4 hO4 hN4))
  refine bodyPost_ret (v := .tuple #[.agg (zcells), .int .i64 5]) (results_row_tmp rfl _ _ _ _ _ (0, 0) _ rfl (hO4) Try.underlying35 rfl (row26 (d17 _ _ (zlen))) _ rfl) rfl (⟨rfl, hB3.trans (hN4.below.mono (by omega))⟩)
set_option maxRecDepth 100000 in
theorem dpS_bad (n : Int) (ms : List Int) (hms : ms.length = 8) (hb : Bytes ms) (hd : isP n ms = false) (w : World) :
    Calls Try.prog 19 #[.agg (dcells n ms)] w fun e w' => e = .returned (.tuple #[.agg zcells, .int .i64 1]) ∧ Below w.heap.size w w' := by
  have hl := Lib.hid hms
  have hcl := Lib.hid (fun w => isPS_any n ms hms hb w)
  rw [hd] at hcl
  clear hms hb hd
  go_enter Try.func19, Try.ntmps19
  go_wp2_with (first
    | (refine wpList_load_row rfl 28 _ rfl _ rfl 28 _ (0, 0) _ ((Own.new _ _ _).alloc _) Try.underlying28 rfl (rowP (d9 _ _ (hl.out))) ?_)
    | (go_at_call 79; ((with_reducible refine (hcl.out _).mono ?_); rintro e w1 ⟨rfl, hB1⟩; have hR1 : Own w1 (w.heap.size + 1) zcells 35 := (Own.at _ _ _ (by simp)).below hB1 (by simp); have hBw : Below w.heap.size w w1 := (((Below.refl w.heap.size w).alloc (Nat.le_refl _) _).alloc (by simp) _).trans (hB1.mono (by simp <;> omega)); clear hB1))
    | (refine wpList_build_of rfl 35 #[] rfl zcells ?_ ?_; (exact built26nil))
    | (refine wpList_store_own rfl 35 _ _ rfl _ _ rfl rfl 35 _ (hR1) (row26 (d17 _ _ (zlen))) (rfl) (dcells_one _ _) ?_; intro w4 hO4 hN4))
  refine bodyPost_ret (v := .tuple #[.agg (zcells), .int .i64 1]) (results_row_tmp rfl _ _ _ _ _ (0, 0) _ rfl (hO4) Try.underlying35 rfl (row26 (d17 _ _ (zlen))) _ rfl) rfl (⟨rfl, hBw.trans (hN4.below.mono (by omega))⟩)
set_option maxRecDepth 100000 in
theorem dpI_bad (n : Int) (ms : List Int) (hms : ms.length = 8) (hd : isP n ms = false) (w : World) :
    Calls Try.prog 20 #[.agg (dcells n ms)] w fun e w' => e = .returned (.tuple #[.agg zcells, .int .i64 1]) ∧ Below w.heap.size w w' := by
  have hl := Lib.hid hms
  have hcl := Lib.hid (fun w => isPI_any n ms hms w)
  rw [hd] at hcl
  clear hms hd
  go_enter Try.func20, Try.ntmps20
  go_wp2_with (first
    | (refine wpList_load_row rfl 28 _ rfl _ rfl 28 _ (0, 0) _ ((Own.new _ _ _).alloc _) Try.underlying28 rfl (rowP (d9 _ _ (hl.out))) ?_)
    | (go_at_call 45; ((with_reducible refine (hcl.out _).mono ?_); rintro e w1 ⟨rfl, hB1⟩; have hR1 : Own w1 (w.heap.size + 1) zcells 35 := (Own.at _ _ _ (by simp)).below hB1 (by simp); have hBw : Below w.heap.size w w1 := (((Below.refl w.heap.size w).alloc (Nat.le_refl _) _).alloc (by simp) _).trans (hB1.mono (by simp <;> omega)); clear hB1))
    | (refine wpList_build_of rfl 35 #[] rfl zcells ?_ ?_; (exact built26nil))
    | (refine wpList_store_own rfl 35 _ _ rfl _ _ rfl rfl 35 _ (hR1) (row26 (d17 _ _ (zlen))) (rfl) (dcells_one _ _) ?_; intro w4 hO4 hN4))
  refine bodyPost_ret (v := .tuple #[.agg (zcells), .int .i64 1]) (results_row_tmp rfl _ _ _ _ _ (0, 0) _ rfl (hO4) Try.underlying35 rfl (row26 (d17 _ _ (zlen))) _ rfl) rfl (⟨rfl, hBw.trans (hN4.below.mono (by omega))⟩)
set_option maxRecDepth 100000 in
set_option maxHeartbeats 4000000 in
theorem dpI_cr (N : Nat) (ms : List Int) (hms : ms.length = 8) (hd : isP N ms = true) (hc : Crs (arZ N ms N (2 * N)) (2 * N)) (w : World) (h1 : 1 ≤ N) (h4 : N ≤ 4) :
    Calls Try.prog 20 #[.agg (dcells N ms)] w fun e w' => e = .returned (.tuple #[.agg zcells, .int .i64 5]) ∧ Below w.heap.size w w' := by
  have hl := Lib.hid hms
  have hnum := isP_nums hms hd
  have hcl := Lib.hid (fun w => isPI_any N ms hms w)
  rw [hd] at hcl
  have hsh := Lib.hid (fun w => shapeOf_nat N ms hms hnum w h1 h4)
  have hpl := Lib.hid (fun ga gp w hO => planI_cr (ga := ga) (gp := gp) (P := parN ms N) (arZ_len N ms N (2 * N)) (by omega) false (by simpa using hc) w hO)
  generalize arZ N ms N (2 * N) = a at *
  generalize parN ms N = P at *
  clear hms hd hc hnum
  go_enter Try.func20, Try.ntmps20
  go_wp2_with (first
    | (refine wpList_load_row rfl 28 _ rfl _ rfl 28 _ (0, 0) _ ((Own.new _ _ _).alloc _) Try.underlying28 rfl (rowP (d9 _ _ (hl.out))) ?_)
    | (go_at_call 45; ((with_reducible refine (hcl.out _).mono ?_); rintro e w1 ⟨rfl, hB1⟩; have hO1 : Own w1 w.heap.size (dcells N ms) 28 := ((Own.new _ _ _).alloc _).below hB1 (by simp <;> omega); have hR1 : Own w1 (w.heap.size + 1) zcells 35 := (Own.at _ _ _ (by simp)).below hB1 (by simp); have hBw : Below w.heap.size w w1 := (((Below.refl w.heap.size w).alloc (Nat.le_refl _) _).alloc (by simp) _).trans (hB1.mono (by simp <;> omega)); clear hB1))
    | (refine wpList_load_row rfl 28 _ rfl _ rfl 28 _ (0, 0) _ (hO1) Try.underlying28 rfl (rowP (d9 _ _ (hl.out))) ?_)
    | (go_at_call 84; ((with_reducible refine (hsh.out _).mono ?_); rintro e w2 ⟨ga, gp, rfl, hga, hgp, hA2, hP2, hB2⟩; have hR2 := hR1.below hB2 hR1.lt; have hB3 : Below w.heap.size w w2 := hBw.trans (hB2.mono hBw.size); clear hB2))
    | (refine wpList_store_own rfl 87 _ _ rfl _ (shc ga gp (2 * N) P) rfl rfl 87 _ (Own.new w2 _ _) (rowSh rfl) rfl (by simp [shc, Value.oneCell']) ?_; intro w3 hO3 hN3; have hR3 := (hR2.alloc _).only hN3 (Nat.ne_of_lt hR2.lt); have hA3 := (hA2.alloc _).only hN3 (Nat.ne_of_lt hA2.lt); have hB4 := (hB3.alloc hB3.size _).trans (hN3.below.mono hB3.size))
    | (refine wpList_load_row rfl 87 _ rfl _ rfl 87 _ (0, 0) _ hO3 Try.underlying87 rfl (rowSh (c := shc ga gp (2 * N) P) rfl) ?_)
    | (go_at_call 85; ((with_reducible refine (hpl.out ga gp _ hA3).mono ?_); rintro e w5 ⟨rfl, hB5⟩; have hR5 := hR3.below hB5 hR3.lt; have hB6 := hB4.trans (hB5.mono hB4.size); clear hB5))
    | (refine wpList_build_of rfl 35 #[] rfl zcells ?_ ?_; (exact built26nil))
    | (refine wpList_store_own rfl 35 _ _ rfl _ _ rfl rfl 35 _ (hR5) (row26 (d17 _ _ (zlen))) (rfl) (dcells_one _ _) ?_; intro w6 hO6 hN6))
  refine bodyPost_ret (v := .tuple #[.agg (zcells), .int .i64 5]) (results_row_tmp rfl _ _ _ _ _ (0, 0) _ rfl (hO6) Try.underlying35 rfl (row26 (d17 _ _ (zlen))) _ rfl) rfl (⟨rfl, hB6.trans (hN6.below.mono (by omega))⟩)
set_option maxRecDepth 100000 in
set_option maxHeartbeats 4000000 in
theorem dpI_np (N : Nat) (ms : List Int) (hms : ms.length = 8) (hd : isP N ms = true) (hc : ¬ Crs (arZ N ms N (2 * N)) (2 * N)) (hp : kd fPair (upL N ms (2 * N)) (loL N ms (2 * N)) (parN ms N) = false) (w : World) (h1 : 1 ≤ N) (h4 : N ≤ 4) :
    Calls Try.prog 20 #[.agg (dcells N ms)] w fun e w' => e = .returned (.tuple #[.agg zcells, .int .i64 5]) ∧ Below w.heap.size w w' := by
  have hl := Lib.hid hms
  have hnum := isP_nums hms hd
  have hcl := Lib.hid (fun w => isPI_any N ms hms w)
  rw [hd] at hcl
  have hsh := Lib.hid (fun w => shapeOf_nat N ms hms hnum w h1 h4)
  have hpl := Lib.hid (fun ga gp w hO => planI_cr (ga := ga) (gp := gp) (P := parN ms N) (arZ_len N ms N (2 * N)) (by omega) true (by simpa using hc) w hO)
  have hpb := par_bd ms N h1 hnum hms h4
  have hpr := Lib.hid (fun ga gp w hO => pairI_any ga gp (2 * N) (parN ms N) (upL N ms (2 * N)) (loL N ms (2 * N)) (sdZ N (parN ms N) ms (2 * N)) w hpb.2.1 (fun v hv => sd_up N (parN ms N) ms hnum (2 * N) hpb.2.2 hpb.2.1 v hv) (sdZ_len N (parN ms N) ms (2 * N)) (fun i => ⟨(upL_bd N ms (2 * N) i).1, by have := (upL_bd N ms (2 * N) i).2; omega⟩) (fun i => ⟨(loL_bd N ms (2 * N) i).1, by have := (loL_bd N ms (2 * N) i).2; omega⟩) hO)
  rw [hp] at hpr
  have c0 := dcells_zero N ms
  generalize sdZ N (parN ms N) ms (2 * N) = Z at *
  generalize arZ N ms N (2 * N) = a at *
  clear hp hpb
  generalize parN ms N = P at *
  clear hms hd hc hnum
  go_enter Try.func20, Try.ntmps20
  go_wp2_with (first
    | (refine wpList_load_row rfl 28 _ rfl _ rfl 28 _ (0, 0) _ ((Own.new _ _ _).alloc _) Try.underlying28 rfl (rowP (d9 _ _ (hl.out))) ?_)
    | (go_at_call 45; ((with_reducible refine (hcl.out _).mono ?_); rintro e w1 ⟨rfl, hB1⟩; have hO1 : Own w1 w.heap.size (dcells N ms) 28 := ((Own.new _ _ _).alloc _).below hB1 (by simp <;> omega); have hR1 : Own w1 (w.heap.size + 1) zcells 35 := (Own.at _ _ _ (by simp)).below hB1 (by simp); have hBw : Below w.heap.size w w1 := (((Below.refl w.heap.size w).alloc (Nat.le_refl _) _).alloc (by simp) _).trans (hB1.mono (by simp <;> omega)); clear hB1))
    | (refine wpList_load_row rfl 28 _ rfl _ rfl 28 _ (0, 0) _ (hO1) Try.underlying28 rfl (rowP (d9 _ _ (hl.out))) ?_)
    | (go_at_call 84; ((with_reducible refine (hsh.out _).mono ?_); rintro e w2 ⟨ga, gp, rfl, hga, hgp, hA2, hP2, hB2⟩; have hR2 := hR1.below hB2 hR1.lt; have hO2 := hO1.below hB2 hO1.lt; have hB3 : Below w.heap.size w w2 := hBw.trans (hB2.mono hBw.size); clear hB2))
    | (refine wpList_store_own rfl 87 _ _ rfl _ (shc ga gp (2 * N) P) rfl rfl 87 _ (Own.new w2 _ _) (rowSh rfl) rfl (by simp [shc, Value.oneCell']) ?_; intro w3 hO3 hN3; have hR3 := (hR2.alloc _).only hN3 (Nat.ne_of_lt hR2.lt); have hQ3 := (hO2.alloc _).only hN3 (Nat.ne_of_lt hO2.lt); have hA3 := (hA2.alloc _).only hN3 (Nat.ne_of_lt hA2.lt); have hP3 := (hP2.alloc _).only hN3 (Nat.ne_of_lt hP2.lt); have hB4 := (hB3.alloc hB3.size _).trans (hN3.below.mono hB3.size))
    | (refine wpList_load_row_if rfl 87 _ rfl _ rfl 87 _ _ hS5 Try.underlying87 rfl (rowSh (c := shc ga gp (2 * N) P) rfl) ?_)
    | (refine wpList_load_row rfl 87 _ rfl _ rfl 87 _ (0, 0) _ hS5 Try.underlying87 rfl (rowSh (c := shc ga gp (2 * N) P) rfl) ?_)
    | (refine wpList_load_row rfl 87 _ rfl _ rfl 87 _ (0, 0) _ hO3 Try.underlying87 rfl (rowSh (c := shc ga gp (2 * N) P) rfl) ?_)
    | (go_at_call 85; ((with_reducible refine (hpl.out ga gp _ hA3).mono ?_); rintro e w5 ⟨rfl, hB5⟩; have hR5 := hR3.below hB5 hR3.lt; have hS5 := hO3.below hB5 hO3.lt; have hP5 := hP3.below hB5 hP3.lt; have hQ5 := hQ3.below hB5 hQ3.lt; have hB6 := hB4.trans (hB5.mono hB4.size); clear hB5))
    | (go_at_call 86; ((with_reducible refine (hpr.out ga gp _ hP5).mono ?_); rintro e w6 ⟨rfl, hB7⟩; have hR6 := hR5.below hB7 hR5.lt; have hQ6 := hQ5.below hB7 hQ5.lt; have hB8 := hB6.trans (hB7.mono hB6.size); have k0 := (hQ6.cell 0).trans c0; clear hB7))
    | (refine wpList_build_of rfl 35 #[] rfl zcells ?_ ?_; (exact built26nil))
    | (refine wpList_store_own rfl 35 _ _ rfl _ _ rfl rfl 35 _ (hR6) (row26 (d17 _ _ (zlen))) (rfl) (dcells_one _ _) ?_; intro w7 hO7 hN7))
  refine bodyPost_ret (v := .tuple #[.agg (zcells), .int .i64 5]) (results_row_tmp rfl _ _ _ _ _ (0, 0) _ rfl (hO7) Try.underlying35 rfl (row26 (d17 _ _ (zlen))) _ rfl) rfl (⟨rfl, hB8.trans (hN7.below.mono (by omega))⟩)
set_option maxRecDepth 100000 in
set_option maxHeartbeats 8000000 in
theorem dpI_ok (N : Nat) (ms : List Int) (hms : ms.length = 8) (hd : isP N ms = true) (hc : ¬ Crs (arZ N ms N (2 * N)) (2 * N)) (hp : kd fPair (upL N ms (2 * N)) (loL N ms (2 * N)) (parN ms N) = true) (w : World) (h1 : 1 ≤ N) (h4 : N ≤ 4) :
    Calls Try.prog 20 #[.agg (dcells N ms)] w fun e w' => e = .returned (.tuple #[.agg (dcells N (djO ms (2 * N))), .int .i64 0]) ∧ Below w.heap.size w w' := by
  have hl := Lib.hid hms
  have hnum := isP_nums hms hd
  have hcl := Lib.hid (fun w => isPI_any N ms hms w)
  rw [hd] at hcl
  have hsh := Lib.hid (fun w => shapeOf_nat N ms hms hnum w h1 h4)
  have hpl := Lib.hid (fun ga gp w hO => planI_cr (ga := ga) (gp := gp) (P := parN ms N) (arZ_len N ms N (2 * N)) (by omega) true (by simpa using hc) w hO)
  have hpb := par_bd ms N h1 hnum hms h4
  have hpr := Lib.hid (fun ga gp w hO => pairI_any ga gp (2 * N) (parN ms N) (upL N ms (2 * N)) (loL N ms (2 * N)) (sdZ N (parN ms N) ms (2 * N)) w hpb.2.1 (fun v hv => sd_up N (parN ms N) ms hnum (2 * N) hpb.2.2 hpb.2.1 v hv) (sdZ_len N (parN ms N) ms (2 * N)) (fun i => ⟨(upL_bd N ms (2 * N) i).1, by have := (upL_bd N ms (2 * N) i).2; omega⟩) (fun i => ⟨(loL_bd N ms (2 * N) i).1, by have := (loL_bd N ms (2 * N) i).2; omega⟩) hO)
  rw [hp] at hpr
  have c0 := dcells_zero N ms
  generalize sdZ N (parN ms N) ms (2 * N) = Z at *
  generalize arZ N ms N (2 * N) = a at *
  clear hp hpb
  generalize parN ms N = P at *
  have hdl := Lib.hid (djO_len ms)
  have hil := Lib.hid (fun i k => djI_len ms i (djO ms i) (djO_len ms i) k)
  clear hms hd hc hnum
  go_enter Try.func20, Try.ntmps20
  go_wp2_with (first
    | (refine wpList_load_row rfl 28 _ rfl _ rfl 28 _ (0, 0) _ ((Own.new _ _ _).alloc _) Try.underlying28 rfl (rowP (d9 _ _ (hl.out))) ?_)
    | (go_at_call 45; ((with_reducible refine (hcl.out _).mono ?_); rintro e w1 ⟨rfl, hB1⟩; have hO1 : Own w1 w.heap.size (dcells N ms) 28 := ((Own.new _ _ _).alloc _).below hB1 (by simp <;> omega); have hR1 : Own w1 (w.heap.size + 1) zcells 35 := (Own.at _ _ _ (by simp)).below hB1 (by simp); have hBw : Below w.heap.size w w1 := (((Below.refl w.heap.size w).alloc (Nat.le_refl _) _).alloc (by simp) _).trans (hB1.mono (by simp <;> omega)); clear hB1))
    | (refine wpList_load_row rfl 28 _ rfl _ rfl 28 _ (0, 0) _ (hO1) Try.underlying28 rfl (rowP (d9 _ _ (hl.out))) ?_)
    | (go_at_call 84; ((with_reducible refine (hsh.out _).mono ?_); rintro e w2 ⟨ga, gp, rfl, hga, hgp, hA2, hP2, hB2⟩; have hR2 := hR1.below hB2 hR1.lt; have hO2 := hO1.below hB2 hO1.lt; have hB3 : Below w.heap.size w w2 := hBw.trans (hB2.mono hBw.size); clear hB2))
    | (refine wpList_store_own rfl 87 _ _ rfl _ (shc ga gp (2 * N) P) rfl rfl 87 _ (Own.new w2 _ _) (rowSh rfl) rfl (by simp [shc, Value.oneCell']) ?_; intro w3 hO3 hN3; have hR3 := (hR2.alloc _).only hN3 (Nat.ne_of_lt hR2.lt); have hQ3 := (hO2.alloc _).only hN3 (Nat.ne_of_lt hO2.lt); have hA3 := (hA2.alloc _).only hN3 (Nat.ne_of_lt hA2.lt); have hP3 := (hP2.alloc _).only hN3 (Nat.ne_of_lt hP2.lt); have hB4 := (hB3.alloc hB3.size _).trans (hN3.below.mono hB3.size))
    | (refine wpList_load_row_if rfl 87 _ rfl _ rfl 87 _ _ hS5 Try.underlying87 rfl (rowSh (c := shc ga gp (2 * N) P) rfl) ?_)
    | (refine wpList_load_row rfl 87 _ rfl _ rfl 87 _ (0, 0) _ hS5 Try.underlying87 rfl (rowSh (c := shc ga gp (2 * N) P) rfl) ?_)
    | (refine wpList_load_row rfl 87 _ rfl _ rfl 87 _ (0, 0) _ hO3 Try.underlying87 rfl (rowSh (c := shc ga gp (2 * N) P) rfl) ?_)
    | (go_at_call 85; ((with_reducible refine (hpl.out ga gp _ hA3).mono ?_); rintro e w5 ⟨rfl, hB5⟩; have hR5 := hR3.below hB5 hR3.lt; have hS5 := hO3.below hB5 hO3.lt; have hP5 := hP3.below hB5 hP3.lt; have hQ5 := hQ3.below hB5 hQ3.lt; have hB6 := hB4.trans (hB5.mono hB4.size); clear hB5))
    | (go_at_call 86; ((with_reducible refine (hpr.out ga gp _ hP5).mono ?_); rintro e w6 ⟨rfl, hB7⟩; have hR6 := hR5.below hB7 hR5.lt; have hQ6 := hQ5.below hB7 hQ5.lt; have hB8 := hB6.trans (hB7.mono hB6.size); have k0 := (hQ6.cell 0).trans c0; clear hB7))
    | (go_at_call 87; ((with_reducible refine (newMates_any _).mono ?_); rintro e w0 ⟨rfl, rfl⟩; have k0 := ((hQ6.alloc (.cells (mcells zeros) 5)).cell 0).trans c0)))
  have n1 : w.heap.size ≠ w6.heap.size := Nat.ne_of_lt hQ6.lt
  have n2 : w.heap.size + 1 ≠ w6.heap.size := Nat.ne_of_lt hR6.lt
  have n3 : w.heap.size ≤ w6.heap.size := hB8.size
  have HO1 := Lib.hid (show Own (w6.alloc (.cells (mcells zeros) 5)) w.heap.size (dcells N ms) 28 from hQ6.alloc _)
  have HR1 := Lib.hid (show Own (w6.alloc (.cells (mcells zeros) 5)) (w.heap.size + 1) zcells 35 from hR6.alloc _)
  have HD1 := Lib.hid (show Own (w6.alloc (.cells (mcells zeros) 5)) w6.heap.size (mcells (djO ms 0)) 5 from Own.new _ _ _)
  have HB1 := Lib.hid (show Below w.heap.size w (w6.alloc (.cells (mcells zeros) 5)) from hB8.alloc hB8.size _)
  clear k0 hQ6 hR6 hB8 hQ5 hR5 hP5 hS5 hB6 hO3 hN3 hR3 hQ3 hA3 hP3 hB4 hA2 hP2 hR2 hO2 hB3 hO1 hR1 hBw
  generalize w6.heap.size = gd at *
  go_loopw [27] (fun v wr => ∃ i : Nat, i ≤ 2 * N ∧ v = .int .i64 (i : Int) ∧ Own wr w.heap.size (dcells N ms) 28 ∧ Own wr (w.heap.size + 1) zcells 35 ∧ Own wr gd (mcells (djO ms i)) 5 ∧ Below w.heap.size w wr) (fun v _ => (2 * (N : Int) - intOf v).toNat)
  case atStart => exact ⟨0, by omega, by go_num, HO1.out, HR1.out, HD1.out, HB1.out⟩
  case round =>
    clear HO1 HR1 HD1 HB1
    obtain ⟨i, hi, rfl, hO, hR, hD, hB⟩ := hrel
    by_cases hlt : i < 2 * N
    · have i1 : (i : Int) < 2 * (N : Int) := by omega
      have HO := Lib.hid hO
      have HR := Lib.hid hR
      have HD := Lib.hid hD
      have HB := Lib.hid hB
      clear hO hR hD hB
      go_wp2
      go_loopw [31] (fun v wr => ∃ k : Nat, k ≤ i ∧ v = .int .i64 (k : Int) ∧ Own wr w.heap.size (dcells N ms) 28 ∧ Own wr (w.heap.size + 1) zcells 35 ∧ Own wr gd (mcells (djI ms i (djO ms i) k)) 5 ∧ Below w.heap.size w wr) (fun v _ => ((i : Int) - intOf v).toNat)
      case atStart => exact ⟨0, by omega, by go_num, HO.out, HR.out, HD.out, HB.out⟩
      case round =>
        clear HO HR HD HB
        obtain ⟨k, hk, rfl, hO, hR, hD, hB⟩ := hrel
        have hDl := Lib.hid (hil.out i k)
        by_cases hlk : k < i
        · have j1 : (k : Int) < (i : Int) := by omega
          have j2 : (i : Int) < 8 := by omega
          have j3 : (k : Int) < 8 := by omega
          have c1 := hO.cell (1 + i)
          rw [dcells_get _ _ _ (by rw [hl.out]; omega)] at c1
          have c2 := hO.cell (1 + k)
          rw [dcells_get _ _ _ (by rw [hl.out]; omega)] at c2
          have HO := Lib.hid hO
          have HR := Lib.hid hR
          have HD := Lib.hid hD
          have HB := Lib.hid hB
          clear hO hR hD hB
          by_cases he : ms.getD i 0 = ms.getD k 0
          · have HST := Lib.hid (djI_yes ms i (djO ms i) k he)
            have hjn := Lib.hid (fun w ho => join_any gd (djI ms i (djO ms i) k) hDl.out (k : Int) (i : Int) w ho (by omega) (by omega) (by omega) (by omega))
            rw [← HST.out] at hjn
            rw [← he] at c2
            clear he HST
            generalize ms.getD i 0 = x at *
            have hxx : (x == x) = true := by simp
            go_wp2
            go_quiet (fail)
            have HO3 := Lib.hid (HO.out.drewN nq)
            have HR3 := Lib.hid (HR.out.drewN nq)
            have HD3 := Lib.hid (HD.out.drewN nq)
            have HB3 := Lib.hid (Below.drewN HB.out nq)
            clear c1 c2 HO HR HD HB hxx
            generalize wr.drewN nq = wq at *
            go_wp2_with (first
              | (go_at_call 88; ((with_reducible refine (hjn.out wq HD3.out).mono ?_); rintro e w10 ⟨rfl, hG10, hN10⟩)))
            have HO6 := Lib.hid (HO3.out.only hN10 n1)
            have HR6 := Lib.hid (HR3.out.only hN10 n2)
            have HD6 := Lib.hid hG10
            have HB6 := Lib.hid (HB3.out.trans (hN10.below.mono n3))
            clear HO3 HR3 HD3 HB3 hG10 hN10
            go_wp2
            go_roundw
            case rel => exact ⟨k + 1, by omega, by go_num, HO6.out, HR6.out, HD6.out, HB6.out⟩
            case measure => simp [intOf] <;> omega
          · have HST := Lib.hid (djI_no ms i (djO ms i) k he)
            have hyx : (ms.getD k 0 == ms.getD i 0) = false := by simpa using fun e : ms.getD k 0 = ms.getD i 0 => he e.symm
            clear he
            generalize ms.getD i 0 = x at *
            generalize ms.getD k 0 = y at *
            go_wp2
            go_quiet (fail)
            have HO3 := Lib.hid (HO.out.drewN nq)
            have HR3 := Lib.hid (HR.out.drewN nq)
            have HD3 := Lib.hid (HD.out.drewN nq)
            have HB3 := Lib.hid (Below.drewN HB.out nq)
            clear c1 c2 HO HR HD HB hyx
            generalize wr.drewN nq = wq at *
            go_wp2
            go_roundw
            case rel => exact ⟨k + 1, by omega, by go_num, HO3.out, HR3.out, by rw [HST.out]; exact HD3.out, HB3.out⟩
            case measure => simp [intOf] <;> omega
        · obtain rfl : k = i := by omega
          have HO := Lib.hid hO
          have HR := Lib.hid hR
          have HD := Lib.hid (show Own wr gd (mcells (djO ms (k + 1))) 5 from hD)
          have HB := Lib.hid hB
          clear hO hR hD hB
          go_wp2
          go_roundw
          case rel => exact ⟨k + 1, by omega, by go_num, HO.out, HR.out, HD.out, HB.out⟩
          case measure => simp [intOf] <;> omega
    · obtain rfl : i = 2 * N := by omega
      have hDl := Lib.hid (hdl.out (2 * N))
      have k0 := (hO.cell 0).trans c0
      have HD := Lib.hid hD
      go_wp2_with (first
        | (go_at_call 89; ((with_reducible refine (dom_any _ (djO ms (2 * N)) hDl.out (N : Int) _ HD.out).mono ?_); rintro e w3 ⟨rfl, hB3⟩))
        | (refine wpList_store_own rfl 35 _ _ rfl _ _ rfl rfl 35 _ (hR.below hB3 hR.lt) (row26 (d17 _ _ (hDl.out))) (z_eq (d17 _ _ hDl.out)) (dcells_one _ _) ?_; intro w4 hO4 hN4))
      refine bodyPost_ret (v := .tuple #[.agg (dcells N (djO ms (2 * N))), .int .i64 0]) (results_row_tmp rfl _ _ _ _ _ (0, 0) _ rfl (hO4) Try.underlying35 rfl (row26 (d17 _ _ (hDl.out))) _ rfl) rfl (⟨rfl, (hB.trans (hB3.mono hB.size)).trans (hN4.below.mono (by omega))⟩)
set_option maxRecDepth 100000 in
theorem DiagramOfPartition_walk (n : Int) (ms : List Int) (hms : ms.length = 8) (w : World) (m c : Int) (rs : List Int) (hr : rs.length = 16)
    (hS : ∀ w, Calls Try.prog 19 #[.agg (dcells n ms)] w fun e w' => e = .returned (.tuple #[.agg (dcells m rs), .int .i64 c]) ∧ Below w.heap.size w w')
    (hI : ∀ w, Calls Try.prog 20 #[.agg (dcells n ms)] w fun e w' => e = .returned (.tuple #[.agg (dcells m rs), .int .i64 c]) ∧ Below w.heap.size w w') :
    Calls Try.prog 4 #[.agg (dcells n ms)] w fun e w' => e = .returned (.bool true) ∧ Below w.heap.size w w' := by
  have hl := Lib.hid hms
  have hh := Lib.hid hr
  have hS' := Lib.hid hS
  have hI' := Lib.hid hI
  clear hms hr hS hI
  go_enter Try.func4, Try.ntmps4
  go_wp2_with (first
    | (refine wpList_load_row rfl 24 _ rfl _ rfl 24 _ (0, 0) _ (Own.new w _ _) Try.underlying24 rfl (rowLP (d9 _ _ (hl.out))) ?_)
    | (go_at_call 14; ((with_reducible refine (toP_any n ms hl.out w3).mono ?_); rintro e w4 ⟨rfl, hB4⟩))
    | (go_at_call 14; ((with_reducible refine (toP_any n ms hl.out _).mono ?_); rintro e w1 ⟨rfl, hB1⟩))
    | (go_at_call 19; ((with_reducible refine (hS'.out _).mono ?_); rintro e w2 ⟨rfl, hB2⟩; have hA2 : Own w2 w.heap.size (dcells n ms) 24 := ((Own.new w _ _).below hB1 (by simp)).below hB2 (Nat.lt_of_lt_of_le (by simp) hB1.size); have b2 : Below w.heap.size w w2 := (((Below.refl w.heap.size w).alloc (Nat.le_refl _) _).trans (hB1.mono (by simp))).trans (hB2.mono (Nat.le_trans (by simp) hB1.size))))
    | (go_at_call 20; ((with_reducible refine (hI'.out _).mono ?_); rintro e w5 ⟨rfl, hB5⟩; have hO5 : Own w5 w2.heap.size (dcells m rs) 35 := (hO3.below hB4 hO3.lt).below hB5 (Nat.lt_of_lt_of_le hO3.lt hB4.size)))
    | (refine wpList_load_row rfl 24 _ rfl _ rfl 24 _ (0, 0) _ ((hA2.alloc _).only hN3 (Nat.ne_of_lt hA2.lt)) Try.underlying24 rfl (rowLP (d9 _ _ (hl.out))) ?_)
    | (refine wpList_load_row rfl 35 _ rfl _ rfl 35 _ (0, 0) _ (hO6) Try.underlying35 rfl (row26 (d17 _ _ (hh.out))) ?_)
    | (refine wpList_load_row rfl 35 _ rfl _ rfl 35 _ (0, 0) _ ((hO5.alloc _).only hN6 (Nat.ne_of_lt hO5.lt)) Try.underlying35 rfl (row26 (d17 _ _ (hh.out))) ?_)
    | (go_at_call 21; refine (eqD_same m rs hh.out _).mono ?_; rintro e w7 ⟨rfl, hB7⟩)
    | (refine wpList_store_own rfl 35 _ _ rfl _ _ rfl rfl 35 _ (Own.new w5 _ _) (row26 (d17 _ _ (hh.out))) (z_eq (d17 _ _ hh.out)) (dcells_one _ _) ?_; intro w6 hO6 hN6)
    | (refine wpList_store_own rfl 35 _ _ rfl _ _ rfl rfl 35 _ (Own.new w2 _ _) (row26 (d17 _ _ (hh.out))) (z_eq (d17 _ _ hh.out)) (dcells_one _ _) ?_; intro w3 hO3 hN3))
  go_ret
  refine ⟨rfl, ?_⟩
  have b3 : Below w.heap.size w w3 := (b2.alloc b2.size _).trans (hN3.below.mono b2.size)
  have b4 := b3.trans (hB4.mono b3.size)
  have b5 := b4.trans (hB5.mono b4.size)
  have b6 : Below w.heap.size w w6 := (b5.alloc b5.size _).trans (hN6.below.mono b5.size)
  exact b6.trans (hB7.mono b6.size)
theorem diap_law (n : Int) (ms : List Int) (hms : ms.length = 8) (hb : Bytes ms) (w : World) :
    Calls Try.prog 4 #[.agg (dcells n ms)] w fun e w' => e = .returned (.bool true) ∧ Below w.heap.size w w' := by
  cases hd : isP n ms with
  | true =>
    have hn := isP_n hd
    obtain ⟨N, rfl⟩ : ∃ N : Nat, n = N := ⟨n.toNat, by omega⟩
    by_cases hc : Crs (arZ N ms N (2 * N)) (2 * N)
    · exact DiagramOfPartition_walk N ms hms w 0 5 zeros zlen (fun w => dpS_cr N ms hms hb hd hc w (by omega) (by omega)) (fun w => dpI_cr N ms hms hd hc w (by omega) (by omega))
    · cases hp : kd fPair (upL N ms (2 * N)) (loL N ms (2 * N)) (parN ms N) with
      | true => exact DiagramOfPartition_walk N ms hms w _ 0 _ (djO_len _ _) (fun w => dpS_ok N ms hms hb hd hc hp w (by omega) (by omega)) (fun w => dpI_ok N ms hms hd hc hp w (by omega) (by omega))
      | false => exact DiagramOfPartition_walk N ms hms w 0 5 zeros zlen (fun w => dpS_np N ms hms hb hd hc hp w (by omega) (by omega)) (fun w => dpI_np N ms hms hd hc hp w (by omega) (by omega))
  | false => exact DiagramOfPartition_walk n ms hms w 0 1 zeros zlen (dpS_bad n ms hms hb hd) (dpI_bad n ms hms hd)
end Go.Proofs.Ytblbnlpbefmieaa
