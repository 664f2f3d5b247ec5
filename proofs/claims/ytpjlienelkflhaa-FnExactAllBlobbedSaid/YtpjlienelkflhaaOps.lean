/- The model's marks of points whose lines are open to the left. -/
import Derived.Test.YtpjlienelkflhaaBlc
import Derived.Test.YtpjlienelkflhaaOpl
namespace Go.Proofs.Ytpjlienelkflhaa
open Go.RowKit
set_option linter.unusedVariables false
set_option linter.unusedSimpArgs false
theorem builtBo : Try.prog.built 62 [] = some (bools zbs) := by kernel_rfl
theorem opB_more (n : Int) (ms : List Int) (k : Nat) (h : opens n ms k ≠ []) : opB n ms (k + 1) = opB n ms k := by rw [opB, if_neg h]
theorem opB_set (n : Int) (ms : List Int) (k : Nat) (h : opens n ms k = []) : opB n ms (k + 1) = ((opB n ms k).set (pl n k).toNat true).set (mate ms (pl n k)).toNat true := by rw [opB, if_pos h]
theorem opens_len_up {n : Int} {ms : List Int} (h : Net n ms) (k : Nat) (hk : (k : Int) < 2 * n) (hq : (k : Int) < qq n ms k) : ((opens n ms (k + 1)).length : Int) = (opens n ms k).length + 1 := by
  rw [opens_up h k hk hq, List.length_append]; rfl
theorem opens_len_down {n : Int} {ms : List Int} (h : Net n ms) (k : Nat) (hk : (k : Int) < 2 * n) (hq : ¬ (k : Int) < qq n ms k) : ((opens n ms (k + 1)).length : Int) = (opens n ms k).length - 1 ∧ opens n ms k ≠ [] := by
  have q0 := h.lt k (by omega) hk
  have e := opens_down h k hk (by omega)
  refine ⟨?_, by rw [e]; simp⟩
  rw [e, List.length_append]
  show _ = ((_ + 1 : Nat) : Int) - 1
  omega
theorem opens_len (n : Int) (ms : List Int) (k : Nat) : (opens n ms k).length ≤ k := by
  unfold opens
  rw [List.length_map]
  exact Nat.le_trans (List.length_filter_le _ _) (by simp)
set_option maxRecDepth 100000 in
set_option maxHeartbeats 4000000 in
theorem opS_any (n : Int) (ms : List Int) (hms : ms.length = 16) (hb : Bytes ms) (hn : Net n ms) (w : World) :
    Calls Try.prog 52 #[.agg (dcells n ms)] w fun e w' => e = .returned (.agg (bools (opB n ms (2 * n).toNat))) ∧ Below w.heap.size w w' := by
  obtain ⟨h1, h8⟩ := hn.bd
  have hl := Lib.hid hms
  have hbb := Lib.hid hb
  have HN := Lib.hid hn
  have c0 := dcells_zero n ms
  obtain ⟨N, hN⟩ : ∃ N, (2 * n).toNat = N := ⟨_, rfl⟩
  rw [hN]
  have hN2 : (N : Int) = 2 * n := by omega
  clear hms hb hn hN
  go_enter Try.func52, Try.ntmps52
  go_wp2_with (first
    | (refine wpList_build_of rfl 62 #[] rfl (bools zbs) ?_ ?_; (exact builtBo))
    | (refine wpList_store_own rfl 62 (.tmp 3) (.tmp 7) rfl _ _ rfl rfl 62 _ (Own.at _ _ _ (by simp)) (rowbo (o16 _ zbsl)) rfl (bools_one _) ?_; intro w1 hO1 hN1))
  have n0 : Own w1 w.heap.size (dcells n ms) 30 := (((Own.new _ _ _).alloc _).alloc _).only hN1 (by omega)
  have n1 : Own w1 (w.heap.size + 1) (bools zbs) 62 := ((Own.at (w.alloc _) _ _ (by simp)).alloc _).only hN1 (by omega)
  have b1 : Below w.heap.size w w1 := ((((Below.refl _ _).alloc (Nat.le_refl _) _).alloc (by simp) _).alloc (by simp; omega) _).trans (hN1.below.mono (by omega))
  have n2 : Own w1 (w.heap.size + 2) (bools zbs) 62 := hO1
  clear hN1 hO1 c0
  go_loopw [4, 5] (fun dp i wr => ∃ (k d : Nat), k ≤ N ∧ i = .int .i64 k ∧ dp = .int .i64 d ∧ d ≤ k ∧ Hid ((opens n ms k).length = d) ∧ Own wr w.heap.size (dcells n ms) 30 ∧ Own wr (w.heap.size + 1) (bools zbs) 62 ∧ Own wr (w.heap.size + 2) (bools (opB n ms k)) 62 ∧ Below w.heap.size w wr) (fun _ i _ => (N - intOf i).toNat)
  case atStart => exact ⟨0, 0, by omega, rfl, rfl, by omega, Lib.hid rfl, n0, n1, n2, b1⟩
  case round =>
    clear n0 n1 n2 b1
    obtain ⟨k, d, hk, rfl, rfl, hdk, hD, hO, hZ, hT, hB⟩ := hrel
    have k0 := hO.cell 0
    rw [dcells_zero] at k0
    by_cases hlt : (k : Int) < 2 * n
    · have pb := pl_bd n k h8 (by omega) hlt
      have q0 := HN.out.lt k (by omega) hlt
      obtain ⟨p, hp⟩ : ∃ p, pl n k = p := ⟨_, rfl⟩
      obtain ⟨m, hm⟩ : ∃ m, mate ms p = m := ⟨_, rfl⟩
      have c1 := dcells_get n ms p.toNat (by rw [hl.out, ← hp]; omega)
      have hqq : qq n ms k = pl n m := by unfold qq; rw [hp, hm]
      have mb := hbb.out.get p.toNat
      have m2n : m < 2 * n := by
        have := HN.out.mt k (by omega) hlt
        rw [hp, hm] at this
        rw [this]
        exact (pl_lt n _ q0.1 q0.2.1).2
      have hm' := hm
      unfold mate at hm'
      rw [hm'] at c1 mb
      rw [hp] at pb
      rw [hqq] at q0
      obtain ⟨pb1, pb2, pb3⟩ := pb
      obtain ⟨mb1, mb2⟩ := mb
      have hs1 := Lib.hid (opB_set n ms k)
      have hs2 := Lib.hid (opB_more n ms k)
      rw [hp, hm] at hs1
      have hu := Lib.hid (opens_len_up HN.out k hlt)
      have hdn := Lib.hid (opens_len_down HN.out k hlt)
      rw [hqq] at hu hdn
      have C1 := Lib.hid c1
      have hP := Lib.hid hp
      have hoL := opB_len n ms k
      have hOL := Lib.hid hoL
      clear hp hm hm' hqq c1 hoL
      go_wp2_with (first
        | (go_at_call 46; ((with_reducible refine ((placeS_any n k _ (by omega) (by omega) (by omega) (by omega)).mono (fun e w' h => (by rw [hP.out] at h; exact h : e = .returned (.int .i64 p) ∧ w' = _))).mono ?_); rintro e w0 ⟨rfl, rfl⟩)))
      clear k0
      refine wp_region_still_lit (by kernel_rfl) (by kernel_rfl) ?_
      have hOd : Own { w0 with drawn := w0.drawn + 1 } w.heap.size (dcells n ms) 30 := hO
      have hZd : Own { w0 with drawn := w0.drawn + 1 } (w.heap.size + 1) (bools zbs) 62 := hZ
      have hTd : Own { w0 with drawn := w0.drawn + 1 } (w.heap.size + 2) (bools (opB n ms k)) 62 := hT
      have hBd : Below w.heap.size w { w0 with drawn := w0.drawn + 1 } := hB.drew
      clear hO hB hT hZ
      generalize ({ w0 with drawn := w0.drawn + 1 } : World) = wd at *
      have k0 := hOd.cell 0
      rw [dcells_zero] at k0
      have k1 := hOd.cell (1 + p.toNat)
      rw [C1.out] at k1
      have hp16 : p < 16 := pb3
      have cm := Lib.hid (placeS_any n m wd (by omega) (by omega) mb1 mb2)
      have hwr : IntKind.i64.wrap m = m := IntWalk.i64_in _ (by omega)
      still_step
      still_step
      still_step
      still_step
      still_step
      still_step
      still_step
      still_call cm.out
      still_step
      still_step
      refine wpStill_nil ?_
      clear hwr k0
      by_cases g0 : (k : Int) < pl n m
      · have hu' := hu.out g0
        rw [hD.out] at hu'
        have hD' := Lib.hid (show (opens n ms (k + 1)).length = d + 1 by omega)
        by_cases gz : d = 0
        · subst gz
          have hOp := Lib.hid (hs1.out (List.length_eq_zero_iff.1 hD.out))
          have c2 : wd.cell? ⟨w.heap.size + 2, p.toNat, none⟩ = some (.bool ((opB n ms k).getD p.toNat false)) := by rw [hTd.cell, bools_get _ _ (by rw [hOL.out]; omega)]
          have f2 : wd.frozen? ⟨w.heap.size + 2, p.toNat, none⟩ = false := hTd.free _
          have c3 : (wd.setCell ⟨w.heap.size + 2, p.toNat, none⟩ (.bool true)).cell? ⟨w.heap.size + 2, m.toNat, none⟩ = some (.bool (((opB n ms k).set p.toNat true).getD m.toNat false)) := by rw [(hTd.set _ _).cell, bools_set, bools_get _ _ (by rw [List.length_set, hOL.out]; omega)]
          have c4 : (wd.setCell ⟨w.heap.size + 2, p.toNat, none⟩ (.bool true)).cell? ⟨w.heap.size, 1 + p.toNat, none⟩ = some (.int .u8 m) := by rw [(hOd.other (a := ⟨w.heap.size + 2, p.toNat, none⟩) (by simp) _).cell, C1.out]
          have f3 : (wd.setCell ⟨w.heap.size + 2, p.toNat, none⟩ (.bool true)).frozen? ⟨w.heap.size + 2, m.toNat, none⟩ = false := (hTd.set _ _).free _
          have m16 : m < 16 := by omega
          have hT2 : Own ((wd.setCell ⟨w.heap.size + 2, p.toNat, none⟩ (.bool true)).setCell ⟨w.heap.size + 2, m.toNat, none⟩ (.bool true)) (w.heap.size + 2) (bools (opB n ms (k + 1))) 62 := by
            have := (hTd.set p.toNat (.bool true)).set m.toNat (.bool true)
            rw [bools_set, bools_set] at this
            rw [hOp.out]; exact this
          have hO2 := (hOd.other (a := ⟨w.heap.size + 2, p.toNat, none⟩) (by simp) (.bool true)).other (a := ⟨w.heap.size + 2, m.toNat, none⟩) (by simp) (.bool true)
          have hZ2 := (hZd.other (a := ⟨w.heap.size + 2, p.toNat, none⟩) (by simp) (.bool true)).other (a := ⟨w.heap.size + 2, m.toNat, none⟩) (by simp) (.bool true)
          have hB2 := (hBd.setCell (p := ⟨w.heap.size + 2, p.toNat, none⟩) (by simp) (.bool true)).setCell (p := ⟨w.heap.size + 2, m.toNat, none⟩) (by simp) (.bool true)
          have K1 := Lib.hid hT2
          have K2 := Lib.hid hO2
          have K3 := Lib.hid hZ2
          have K4 := Lib.hid hB2
          clear hT2 hO2 hZ2 hB2 hTd hOd hZd hBd hu' 
          go_wp2
          go_roundw
          case rel => exact ⟨k + 1, 0 + 1, by omega, by go_num, by go_num, by omega, hD', K2.out, K3.out, K1.out, K4.out⟩
          case measure => simp [intOf]; omega
        · have hOp := hs2.out (fun e => gz (by rw [← hD.out, e]; rfl))
          rw [← hOp] at hTd
          have bz : ((d : Int) == 0) = false := by simp only [beq_eq_false_iff_ne, ne_eq]; omega
          clear hOp hu' gz
          go_wp2
          go_roundw
          case rel => exact ⟨k + 1, d + 1, by omega, by go_num, by go_num, by omega, hD', hOd, hZd, hTd, hBd⟩
          case measure => simp [intOf]; omega
      · have hdn' := hdn.out (by omega)
        rw [hD.out] at hdn'
        have hOp := hs2.out hdn'.2
        have hd0 : d ≠ 0 := fun e => hdn'.2 (List.length_eq_zero_iff.1 (by rw [hD.out, e]))
        have hD' := Lib.hid (show (opens n ms (k + 1)).length = d - 1 by omega)
        rw [← hOp] at hTd
        clear hOp hdn'
        go_wp2
        go_roundw
        case rel => exact ⟨k + 1, d - 1, by omega, by go_num, by congr 1; omega, by omega, hD', hOd, hZd, hTd, hBd⟩
        case measure => simp [intOf]; omega
    · have e : k = N := by omega
      subst e
      have hOL := opB_len n ms k
      go_wp2_with (first
        | (refine wpList_load_row rfl 62 (.tmp 3) rfl _ rfl 62 _ (0, 0) _ hT Try.underlying62 rfl (rowbo (o16 _ hOL)) ?_)
        | (refine wpList_store_own rfl 62 (.tmp 2) (.tmp 42) rfl _ _ rfl rfl 62 _ hZ (rowbo (o16 _ hOL)) (by rw [o16 _ hOL]; rfl) (bools_one _) ?_; intro w4 hO4 hN4))
      refine bodyPost_ret (v := .agg (bools (opB n ms k))) (results_cell_row rfl _ _ _ _ _ (0, 0) _ rfl hO4 Try.underlying62 rfl (rowbo (o16 _ hOL))) rfl ⟨rfl, hB.trans (hN4.below.mono (by omega))⟩
end Go.Proofs.Ytpjlienelkflhaa
