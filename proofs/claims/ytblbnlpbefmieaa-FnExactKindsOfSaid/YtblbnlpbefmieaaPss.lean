/- The surrounding diagram: the model's. -/
import Derived.Test.YtblbnlpbefmieaaPnx
import Derived.Test.YtblbnlpbefmieaaPls
namespace Go.Proofs.Ytblbnlpbefmieaa
open Go.RowKit Go.BigFrame
set_option linter.unusedVariables false
/-- The mates, behind k places. -/
def sj (a : List Int) (m : Nat) : Nat → List Int
  | 0 => zeros
  | k + 1 => joinL (sj a m k) (pl m (2 * (k : Int) + 1)) (pl m (2 * ((nx a m k : Nat) : Int)))
theorem sj_len (a : List Int) (m k : Nat) : (sj a m k).length = 16 := by
  induction k with
  | zero => exact zlen
  | succ k ih => exact (joinL_len _ _ _).trans ih
theorem tm_next2 (p N : Nat) : ((p : Int) + 1).tmod (2 * (N : Int)) = ((p + 1) % (2 * N) : Nat) := by
  rw [show (2 * (N : Int)) = ((2 * N : Nat) : Int) by omega]; exact tm_next p (2 * N)
set_option maxRecDepth 100000 in
set_option maxHeartbeats 8000000 in
theorem surS_any (N : Nat) (ms : List Int) (hms : ms.length = 8) (h1 : 1 ≤ N) (h4 : N ≤ 4) (w : World) :
    Calls Try.prog 92 #[.agg (dcells N ms)] w fun e w' => e = .returned (.agg (dcells (2 * (N : Int)) (sj (arZ N ms N (2 * N)) (2 * N) (2 * N)))) ∧ Below w.heap.size w w' := by
  have HAT := Lib.hid (fun k hk w => atS_any N ms hms h1 h4 k hk w)
  have hms' := Lib.hid hms
  have c0 := dcells_zero N ms
  generalize arZ N ms N (2 * N) = a at *
  have hnz : ¬ (2 * (N : Int)) = 0 := by omega
  have hnz2 : ¬ (N : Int) = 0 := by omega
  have hnz3 : ¬ N = 0 := by omega
  have hsl := Lib.hid (sj_len a (2 * N))
  clear hms
  go_enter Try.func92, Try.ntmps92
  have k0 := ((Own.new w (dcells N ms) 28).alloc (.cells zcells 35)).cell 0
  rw [c0] at k0
  go_wp2_with (first
    | (refine wpList_build_of rfl 35 #[(0, .tmp 10)] rfl (dcells (2 * (N : Int)) zeros) ?_ ?_; (exact built26one _))
    | (refine wpList_store_own rfl 35 _ _ rfl _ _ rfl rfl 35 _ (Own.at _ _ _ (by simp)) (row26 (d17 _ _ (zlen))) (d17 _ _ zlen) (dcells_one _ _) ?_; intro w1 hO1 hN1))
  have HO1 := Lib.hid (show Own w1 w.heap.size (dcells N ms) 28 from (((Own.new _ _ _).alloc _).alloc _).only hN1 (by first | omega | (simp <;> omega)))
  have HR1 := Lib.hid (show Own w1 (w.heap.size + 1) zcells 35 from ((Own.at _ _ _ (by simp)).alloc _).only hN1 (by first | omega | (simp <;> omega)))
  have HD1 := Lib.hid (show Own w1 (w.heap.size + 1 + 1) (dcells (2 * (N : Int)) (sj a (2 * N) 0)) 35 from hO1)
  have HB1 := Lib.hid (show Below w.heap.size w w1 from ((((Below.refl _ _).alloc (Nat.le_refl _) _).alloc (by simp) _).alloc (by simp; omega) _).trans (hN1.below.mono (by first | omega | (simp <;> omega))))
  clear hO1 hN1 k0
  go_loopw [5] (fun v wr => ∃ k : Nat, k ≤ 2 * N ∧ v = .int .i64 (k : Int) ∧ Own wr w.heap.size (dcells N ms) 28 ∧ Own wr (w.heap.size + 1) zcells 35 ∧ Own wr (w.heap.size + 1 + 1) (dcells (2 * (N : Int)) (sj a (2 * N) k)) 35 ∧ Below w.heap.size w wr) (fun v _ => (2 * (N : Int) - intOf v).toNat)
  case atStart => exact ⟨0, by omega, by go_num, HO1.out, HR1.out, HD1.out, HB1.out⟩
  case round =>
    clear HO1 HR1 HD1 HB1
    obtain ⟨k, hk, rfl, hO, hR, hD, hB⟩ := hrel
    have hsk := Lib.hid (hsl.out k)
    by_cases hlt : k < 2 * N
    · have i1 : (k : Int) < 2 * (N : Int) := by omega
      have ht := tm_next2 k N
      have hqm : (k + 1) % (2 * N) < 2 * N := Nat.mod_lt _ (by omega)
      obtain ⟨q, hq⟩ : ∃ q, (k + 1) % (2 * N) = q := ⟨_, rfl⟩
      rw [hq] at ht hqm
      have hq0 := Lib.hid (show q = (k + 1 + 0) % (2 * N) from hq.symm)
      have HO := Lib.hid hO
      have HR := Lib.hid hR
      have HD := Lib.hid hD
      have HB := Lib.hid hB
      clear hO hR hD hB hq
      go_wp2
      clear ht
      go_loopw [6] (fun v wr => ∃ d p : Nat, d < 2 * N ∧ p < 2 * N ∧ v = .int .i64 p ∧ Hid (p = (k + 1 + d) % (2 * N)) ∧ Hid (∀ j, j < d → (rot a (2 * N) k).getD j 0 ≠ a.getD k 0) ∧ Own wr w.heap.size (dcells N ms) 28 ∧ Own wr (w.heap.size + 1) zcells 35 ∧ Own wr (w.heap.size + 1 + 1) (dcells (2 * (N : Int)) (sj a (2 * N) k)) 35 ∧ Below w.heap.size w wr) (fun v _ => 2 * N - dst (2 * N) k (intOf v).toNat)
      case atStart => exact ⟨0, q, by omega, hqm, rfl, hq0, Lib.hid (fun j h => absurd h (Nat.not_lt_zero _)), HO.out, HR.out, HD.out, HB.out⟩
      case round =>
        clear HO HR HD HB
        obtain ⟨d, p, hd, hp, rfl, hE, hH, hO, hR, hD, hB⟩ := hrel
        have HO := Lib.hid hO
        have HR := Lib.hid hR
        have HD := Lib.hid hD
        have HB := Lib.hid hB
        clear hO hR hD hB
        have i2 : (p : Int) < 2 * (N : Int) := by omega
        have hld := loadP_grown N ms hms'.out w.heap.size wr HO.out
        have ck : ∀ d os, Calls Try.prog 144 #[.agg (dcells N ms), .int .i64 (k : Int)] (Sort.grow (redrawn wr d) os) fun e w'' => e = .returned (.int .u8 (a.getD k 0)) ∧ ∃ p : Regrown, w'' = Sort.grow (redrawn wr p.d) p.os := fun d os => Calls.regrown_of (HAT.out k (by omega) _)
        have cp : ∀ d os, Calls Try.prog 144 #[.agg (dcells N ms), .int .i64 (p : Int)] (Sort.grow (redrawn wr d) os) fun e w'' => e = .returned (.int .u8 (a.getD p 0)) ∧ ∃ p : Regrown, w'' = Sort.grow (redrawn wr p.d) p.os := fun d os => Calls.regrown_of (HAT.out p (by omega) _)
        by_cases he : a.getD p 0 = a.getD k 0
        · have hr := Lib.hid (nx_at a (2 * N) k d hd (by rw [← hE.out]; exact he) hH.out)
          rw [← hE.out] at hr
          rw [he] at cp
          clear he hH hE
          have HST := Lib.hid (show sj a (2 * N) (k + 1) = joinL (sj a (2 * N) k) (pl (2 * N : Nat) (2 * (k : Int) + 1)) (pl (2 * N : Nat) (2 * (p : Int))) by rw [sj, hr.out])
          rw [show ((2 * N : Nat) : Int) = 2 * (N : Int) by omega] at HST
          generalize a.getD k 0 = x at *
          have hxx : (x != x) = false := by simp
          go_wp2
          refine wp_region_quiet_below (by kernel_rfl) (by kernel_rfl) ?_
          go_big_quiet_want
          refine quiet_ld 28 (.tmp 1) rfl ⟨w.heap.size, 0, none⟩ rfl _ (fun w' h => by obtain ⟨pp, rfl⟩ := h; exact hld _ _) ?_
          go_frame
          go_big_quiet_on
          iterate 1 (go_big_quiet_step (fail))
          go_big_quiet_step (exact cp _ _)
          go_big_quiet_want
          refine quiet_ld 28 (.tmp 1) rfl ⟨w.heap.size, 0, none⟩ rfl _ (fun w' h => by obtain ⟨pp, rfl⟩ := h; exact hld _ _) ?_
          go_frame
          go_big_quiet_on
          iterate 1 (go_big_quiet_step (fail))
          go_big_quiet_step (exact ck _ _)
          iterate 1 (go_big_quiet_step (fail))
          refine wpQuiet_nil ?_
          intro _ hw'
          obtain ⟨⟨dq, osq⟩, hw''⟩ := hw'
          subst hw''
          have b3 := HB.out.trans ((below_regrown wr dq osq).mono HB.out.size)
          have o3 := HO.out.below (below_regrown wr dq osq) HO.out.lt
          have r3 := HR.out.below (below_regrown wr dq osq) HR.out.lt
          have d3 := HD.out.below (below_regrown wr dq osq) HD.out.lt
          generalize Sort.grow (redrawn wr dq) osq = w3 at *
          clear cp ck hld hxx
          have HO3 := Lib.hid o3
          have HR3 := Lib.hid r3
          have HD3 := Lib.hid d3
          have HB3 := Lib.hid b3
          clear o3 r3 d3 b3 HO HR HD HB hr
          go_wp2
          refine wp_region_still_tail 10 (by kernel_rfl) (by kernel_rfl) ?_
          change wpStill _ _ w3.drew (fun a' => wpList _ _ _ _ a' w3.drew) _ _
          have hO' : Own w3.drew w.heap.size (dcells N ms) 28 := HO3.out
          have hR' : Own w3.drew (w.heap.size + 1) zcells 35 := HR3.out
          have hD' : Own w3.drew (w.heap.size + 1 + 1) (dcells (2 * (N : Int)) (sj a (2 * N) k)) 35 := HD3.out
          have hB' : Below w.heap.size w w3.drew := HB3.out.drew
          clear HO3 HR3 HD3 HB3
          generalize w3.drew = wd at *
          have fk := Lib.hid (pl_bd (2 * (N : Int)) (2 * (k : Int) + 1) (by omega) (by omega) (by omega))
          have fm := Lib.hid (pl_bd (2 * (N : Int)) (2 * (p : Int)) (by omega) (by omega) (by omega))
          have q1 := Lib.hid (placeS_any (2 * (N : Int)) (2 * (k : Int) + 1) wd (by omega) (by omega) (by omega) (by omega))
          have q2 := Lib.hid (placeS_any (2 * (N : Int)) (2 * (p : Int)) wd (by omega) (by omega) (by omega) (by omega))
          have z1 : IntKind.i64.wrap (2 * (k : Int)) = 2 * (k : Int) := IntWalk.i64_in _ (by omega)
          have z2 : IntKind.i64.wrap (2 * (k : Int) + 1) = 2 * (k : Int) + 1 := IntWalk.i64_in _ (by omega)
          have z3 : IntKind.i64.wrap (2 * (p : Int)) = 2 * (p : Int) := IntWalk.i64_in _ (by omega)
          simp only [List.take_succ_cons, List.take_zero, List.drop_succ_cons, List.drop_zero]
          refine wpStill_step (fun K' hK' => ?_)
          rw [if_pos (by rfl)]
          refine still_load_row 35 (.tmp 4) rfl (w.heap.size + 1 + 1) rfl 35 _ _ hD' Try.underlying35 rfl (row26 (d17 _ _ hsk.out)) ?_
          refine hK' _ ?_
          clear hK' K'
          still_step
          still_step
          still_step
          still_step
          still_call q1.out
          still_step
          still_step
          still_step
          still_call q2.out
          refine wpStill_nil ?_
          clear q1 q2 z1 z2 z3
          have hjn := Lib.hid (fun w => joinS_any (2 * (N : Int)) (sj a (2 * N) k) hsk.out (pl (2 * (N : Int)) (2 * (k : Int) + 1)) (pl (2 * (N : Int)) (2 * (p : Int))) w fk.out.1 fk.out.2.2 fm.out.1 fm.out.2.2)
          rw [← HST.out] at hjn
          have hsk1 := Lib.hid (hsl.out (k + 1))
          generalize pl (2 * (N : Int)) (2 * (k : Int) + 1) = y1 at *
          generalize pl (2 * (N : Int)) (2 * (p : Int)) = y2 at *
          clear HST
          go_wp2_with (first
            | (go_at_call 83; ((with_reducible refine (hjn.out _).mono ?_); rintro e w4 ⟨rfl, hB4⟩))
            | (refine wpList_store_own rfl 35 _ _ rfl _ _ rfl rfl 35 _ (hD'.below hB4 hD'.lt) (row26 (d17 _ _ (hsk1.out))) (dd _ _ _ _ hsk.out hsk1.out) (dcells_one _ _) ?_; intro w5 hO5 hN5))
          have hO6 := (hO'.below hB4 hO'.lt).only hN5 (by omega)
          have hR6 := (hR'.below hB4 hR'.lt).only hN5 (by omega)
          have hB6 : Below w.heap.size w w5 := (hB'.trans (hB4.mono hB'.size)).trans (hN5.below.mono (by omega))
          have HO6 := Lib.hid hO6
          have HR6 := Lib.hid hR6
          have HD6 := Lib.hid hO5
          have HB6 := Lib.hid hB6
          clear hO' hR' hD' hB' hB4 hN5 hO6 hR6 hO5 hB6
          go_wp2
          go_roundw
          case rel => exact ⟨k + 1, by omega, by go_num, HO6.out, HR6.out, HD6.out, HB6.out⟩
          case measure => simp [intOf] <;> omega
        · have hr := nx_more a (2 * N) k d hlt hd (by rw [← hE.out]; exact he) hH.out
          have hd2 := hr.1
          have HH := Lib.hid hr.2
          have hE2 := Lib.hid (show (p + 1) % (2 * N) = (k + 1 + (d + 1)) % (2 * N) by rw [hE.out, Nat.mod_add_mod]; rfl)
          have hms := Lib.hid (show 2 * N - dst (2 * N) k ((p + 1) % (2 * N)) < 2 * N - dst (2 * N) k p by rw [hE2.out, hE.out, dst_at (2 * N) k _ hlt hd2, dst_at (2 * N) k _ hlt hd]; omega)
          have ht := tm_next2 p N
          have hqm : (p + 1) % (2 * N) < 2 * N := Nat.mod_lt _ (by omega)
          obtain ⟨q', hq⟩ : ∃ q, (p + 1) % (2 * N) = q := ⟨_, rfl⟩
          rw [hq] at ht hqm hE2 hms
          have hyx : (a.getD p 0 != a.getD k 0) = true := by simpa using he
          clear he hr hH hq hE
          have HH2 := Lib.hid HH
          clear HH
          generalize hxe : a.getD k 0 = x at ck hyx
          generalize a.getD p 0 = y at *
          have HX := Lib.hid hxe
          clear hxe
          go_wp2
          refine wp_region_quiet_below (by kernel_rfl) (by kernel_rfl) ?_
          go_big_quiet_want
          refine quiet_ld 28 (.tmp 1) rfl ⟨w.heap.size, 0, none⟩ rfl _ (fun w' h => by obtain ⟨pp, rfl⟩ := h; exact hld _ _) ?_
          go_frame
          go_big_quiet_on
          iterate 1 (go_big_quiet_step (fail))
          go_big_quiet_step (exact cp _ _)
          go_big_quiet_want
          refine quiet_ld 28 (.tmp 1) rfl ⟨w.heap.size, 0, none⟩ rfl _ (fun w' h => by obtain ⟨pp, rfl⟩ := h; exact hld _ _) ?_
          go_frame
          go_big_quiet_on
          iterate 1 (go_big_quiet_step (fail))
          go_big_quiet_step (exact ck _ _)
          iterate 1 (go_big_quiet_step (fail))
          refine wpQuiet_nil ?_
          intro _ hw'
          obtain ⟨⟨dq, osq⟩, hw''⟩ := hw'
          subst hw''
          have b3 := HB.out.trans ((below_regrown wr dq osq).mono HB.out.size)
          have o3 := HO.out.below (below_regrown wr dq osq) HO.out.lt
          have r3 := HR.out.below (below_regrown wr dq osq) HR.out.lt
          have d3 := HD.out.below (below_regrown wr dq osq) HD.out.lt
          generalize Sort.grow (redrawn wr dq) osq = w3 at *
          have HO3 := Lib.hid o3
          have HR3 := Lib.hid r3
          have HD3 := Lib.hid d3
          have HB3 := Lib.hid b3
          clear o3 r3 d3 b3 HO HR HD HB cp ck hld
          go_wp2
          go_roundw
          case rel => exact ⟨d + 1, q', hd2, hqm, rfl, hE2, (by have h := HH2.out; first | exact h | (rw [HX.out] at h; exact h)), HO3.out, HR3.out, HD3.out, HB3.out⟩
          case measure => have := hms.out; simp [intOf] <;> omega
    · obtain rfl : k = 2 * N := by omega
      go_wp2_with (first
        | (refine wpList_load_row rfl 35 _ rfl _ rfl 35 _ (0, 0) _ (hD) Try.underlying35 rfl (row26 (d17 _ _ (hsk.out))) ?_)
        | (refine wpList_store_own rfl 35 _ _ rfl _ _ rfl rfl 35 _ (hR) (row26 (d17 _ _ (hsk.out))) (z_eq (d17 _ _ hsk.out)) (dcells_one _ _) ?_; intro w4 hO4 hN4))
      refine bodyPost_ret (v := .agg (dcells (2 * (N : Int)) (sj a (2 * N) (2 * N)))) (results_cell_row rfl _ _ _ _ _ (0, 0) _ rfl (hO4) Try.underlying35 rfl (row26 (d17 _ _ (hsk.out)))) rfl (⟨rfl, hB.trans (hN4.below.mono (by omega))⟩)
end Go.Proofs.Ytblbnlpbefmieaa
