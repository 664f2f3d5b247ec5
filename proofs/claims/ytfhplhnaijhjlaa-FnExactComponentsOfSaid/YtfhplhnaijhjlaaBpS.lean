/- The permutation of a braid word: the model's walk. -/
import Derived.Test.YtfhplhnaijhjlaaBp
namespace Go.Proofs.Ytfhplhnaijhjlaa
open Go.RowKit
set_option linter.unusedVariables false
theorem Ints.inj_len {w : World} {base g cap : Nat} {xs : List Int} (h : Ints w base g cap xs) : xs.length ≤ cap := h.2.1
set_option maxRecDepth 100000 in
set_option maxHeartbeats 2000000 in
theorem endsS_any' (n : Int) (p : Option Addr) (cap : Nat) (xs : List Int) (w : World) (hR : Rd w p xs) (h : brdB n xs = true) :
    Calls Try.prog 36 #[.int .i64 n, .slice p xs.length cap] w fun e w' => (∃ p' cap', e = .returned (.slice p' (bprm n xs).length cap') ∧ Mn w' w.heap.size p' (bprm n xs)) ∧ Below w.heap.size w w' := by
  obtain ⟨N, hNN⟩ : ∃ N : Nat, n = N := ⟨n.toNat, by have := (brdB_t h).1.1; omega⟩
  subst hNN
  obtain ⟨⟨n2, n6, h24⟩, hall⟩ := brdB_t h
  have hok := Lib.hid (fun k (hk : k < xs.length) => show -6 ≤ xs.getD k 0 ∧ xs.getD k 0 ≤ 6 ∧ xs.getD k 0 ≠ 0 ∧ plc (xs.getD k 0) + 1 < N by
    have hm : xs.getD k 0 ∈ xs := by rw [List.getD_eq_getElem?_getD, List.getElem?_eq_getElem hk]; exact List.getElem_mem hk
    have h1 := hall _ hm
    have h2 := plc_lt h _ hm
    rw [Int.toNat_natCast] at h2
    exact ⟨by omega, by omega, h1.1, h2⟩)
  have hbs := Lib.hid (fun k => show Sml N (bat N (xs.take k)) from bat_sml h k)
  have hst := Lib.hid (bat_step N xs)
  have hb0 := Lib.hid (show bat N (xs.take 0) = ramp N by simp [bat])
  obtain ⟨m, hm⟩ : ∃ m, xs.length = m := ⟨_, rfl⟩
  have hN := Lib.hid hm
  have hR' := Lib.hid hR
  have hrl := Lib.hid (ramp_len N)
  have hend := Lib.hid (show bat N (xs.take m) = bat N xs by rw [List.take_of_length_le (by omega)])
  have hbp := Lib.hid (show inv (bat N xs) N = bprm N xs by rw [bprm, Int.toNat_natCast])
  have hbl := Lib.hid (show (bat N xs).length = N by rw [← hend.out]; exact (hbs.out m).1)
  have hinl := Lib.hid (inv_len (bat N xs))
  have hpl := Lib.hid (show (bprm N xs).length = N by rw [bprm_len h, Int.toNat_natCast])
  have hmk := Lib.hid (makeI N (by omega))
  rw [hm] at h24 ⊢
  clear hR h hall hm
  have hrs := Lib.hid ramp_step
  have hI0 := Lib.hid (Ints.new w w.heap.size w.heap.size 0 (Nat.le_refl _) rfl (by unfold maxLen; omega) #[] rfl)
  have hB0 := Lib.hid ((Below.refl w.heap.size w).alloc (Nat.le_refl _) (.cells #[] 2))
  have hmkE := mkE
  go_enter Try.func36, Try.ntmps36
  go_wp2
  clear hmkE
  go_loopw [5, 6] (fun v i wr => ∃ (k g cap : Nat), k ≤ N ∧ i = .int .i64 k ∧ v = .slice (some ⟨g, 0, none⟩) k cap ∧ Ints wr w.heap.size g cap (ramp k) ∧ Below w.heap.size w wr) (fun _ i _ => ((N : Int) - intOf i).toNat)
  case atStart => exact ⟨0, _, 0, by omega, rfl, rfl, hI0.out, hB0.out⟩
  case round =>
    clear hI0 hB0
    obtain ⟨k, g, cg, hk, rfl, rfl, hI, hB⟩ := hrel
    by_cases hlt : k < N
    · have hr1 := Lib.hid (hrs.out k)
      have hlk := Lib.hid (ramp_len k)
      have hlk1 := Lib.hid (ramp_len (k + 1))
      have hsz := hB.size
      have hal := hB.alloc hB.size (.cells #[.int .i64 k] 2)
      go_wp2_with (refine wpList_append_ints rfl (.tmp 18) (.tmp 20) rfl w.heap.size g cg (ramp k) k (by unfold ival; rw [hlk.out]; rfl) (hI.alloc _) ⟨wr.heap.size, 0, none⟩ 1 rfl ((Own.new _ _ _).cell 0) (by rw [hlk.out]; omega) (by simp; omega) ?_; intro g2 cap2 w8 hI2 hG2; rw [← hr1.out] at hI2 ⊢; unfold ival; rw [hlk1.out])
      have hB8 := hal.grown hG2 (by simp; omega) (fun b e => by have := hI.1; simp at e; omega)
      go_roundw
      case rel => exact ⟨k + 1, g2, cap2, by omega, by go_num, rfl, hI2, hB8⟩
      case measure => simp [intOf]; omega
    · have hk2 : k = N := by omega
      subst hk2
      rw [← hb0.out] at hI
      have hI0 := Lib.hid hI
      have hB0 := Lib.hid hB
      have hg0 := hI.1
      clear hI hB
      go_wp2
      go_loopw [7] (fun i w2 => ∃ j : Nat, j ≤ m ∧ i = .int .i64 j ∧ Ints w2 w.heap.size g cg (bat k (xs.take j)) ∧ Below w.heap.size w w2) (fun i _ => ((m : Int) - intOf i).toNat)
      case atStart => exact ⟨0, by omega, rfl, hI0.out, hB0.out⟩
      case round =>
        clear hI0 hB0
        obtain ⟨j, hj, rfl, hI, hB⟩ := hrel
        obtain ⟨w2, rfl⟩ : ∃ x, x = wr := ⟨_, rfl⟩
        by_cases hlt2 : j < m
        · have hks : j < xs.length := by rw [hN.out]; exact hlt2
          obtain ⟨a, rfl⟩ := rd_some hR'.out hks
          have c1 := (hR'.out.below hB).cell a rfl j hks
          obtain ⟨o1, o2, o3, o4⟩ := hok.out j hks
          have hs2 := hst.out j hks
          have hlb := (hbs.out j).1
          generalize xs.getD j 0 = x at *
          have hpx : (if x < -x then -x else x) - 1 = ((plc x : Nat) : Int) := by unfold plc; split <;> omega
          have hs3 := Lib.hid hs2
          have i1 : (j : Int) < (m : Int) := by omega
          have o6 : -6 ≤ (if x < -x then -x else x) ∧ (if x < -x then -x else x) ≤ 6 := by split <;> omega
          have hpx' := Lib.hid hpx
          have hI3 := Lib.hid (hI.drewN 1)
          have hB3 := Lib.hid (Below.drewN hB 1)
          clear hs2 hks o3 hpx hI hB
          go_wp2
          go_region
          rw [hpx'.out]
          have hI := hI3.out
          have hB := hB3.out
          clear hI3 hB3 c1 hpx' o6
          change Ints w2.drew _ _ _ _ at hI
          change Below _ _ w2.drew at hB
          generalize w2.drew = w3 at *
          have d1 := hI.cell (plc x) (by omega)
          have d2 := hI.cell (plc x + 1) (by omega)
          have f1 := hI.free (plc x)
          have f2 := (hI.put (plc x) ((bat k (xs.take j)).getD (plc x + 1) 0)).free (plc x + 1)
          have d3 := (hI.put (plc x) ((bat k (xs.take j)).getD (plc x + 1) 0)).cell (plc x + 1) (by simp; omega)
          have hO := Lib.hid (show Ints ((w3.setCell ⟨g, plc x, none⟩ (.int .i64 ((bat k (xs.take j)).getD (plc x + 1) 0))).setCell ⟨g, plc x + 1, none⟩ (.int .i64 ((bat k (xs.take j)).getD (plc x) 0))) w.heap.size g cg (sw (bat k (xs.take j)) (plc x)) from (hI.put _ _).put _ _)
          have hY := Lib.hid ((Only.set g (plc x) w3 (.int .i64 ((bat k (xs.take j)).getD (plc x + 1) 0))).trans (Only.set g (plc x + 1) _ (.int .i64 ((bat k (xs.take j)).getD (plc x) 0))))
          have hB4 := Lib.hid (hB.trans (hY.out.below.mono hg0))
          generalize (bat k (xs.take j)).getD (plc x + 1) 0 = y1 at *
          generalize (bat k (xs.take j)).getD (plc x) 0 = y0 at *
          generalize ((bat k (xs.take j)).set (plc x) y1).getD (plc x + 1) 0 = y2 at *
          generalize plc x = q at *
          clear hY hI hB hlb
          go_wp2
          go_roundw
          case rel => exact ⟨j + 1, by omega, by go_num, by rw [hs3.out]; exact hO.out, hB4.out⟩
          case measure => simp [intOf]; omega
        · have hj2 : j = m := by omega
          subst hj2
          rw [hend.out] at hI
          have hmk2 := hmk.out
          have hsz := hB.size
          have hI3 := Lib.hid (hI.alloc (.cells (icells (List.replicate k 0)) 2))
          have hB3 := Lib.hid (hB.alloc hsz (.cells (icells (List.replicate k 0)) 2))
          have hO3 := Lib.hid (show Own (w2.alloc (.cells (icells (List.replicate k 0)) 2)) w2.heap.size (icells (inv (bat k xs) 0)) 2 by
            rw [inv, hbl.out]; exact Own.new _ _ _)
          have hne := Lib.hid (show g ≠ w2.heap.size from Nat.ne_of_lt hI.lt)
          have hsml := Lib.hid (show Sml k (bat k xs) by rw [← hend.out]; exact hbs.out j)
          clear hI hB
          go_wp2
          clear hmk2
          go_loopw [11] (fun i w5 => ∃ l : Nat, l ≤ k ∧ i = .int .i64 l ∧ Ints w5 w.heap.size g cg (bat k xs) ∧ Own w5 w2.heap.size (icells (inv (bat k xs) l)) 2 ∧ Below w.heap.size w w5) (fun i _ => ((k : Int) - intOf i).toNat)
          case atStart => exact ⟨0, by omega, rfl, hI3.out, hO3.out, hB3.out⟩
          case round =>
            clear hI3 hO3 hB3
            obtain ⟨l, hl, rfl, hI, hO, hB⟩ := hrel
            obtain ⟨w5, rfl⟩ : ∃ x, x = wr := ⟨_, rfl⟩
            by_cases hlt3 : l < k
            · have c1 := hI.cell l (by rw [hbl.out]; exact hlt3)
              have rg := hsml.out.2 l hlt3
              have hlen := hinl.out l
              have hset : Own (w5.setCell ⟨w2.heap.size, ((bat k xs).getD l 0).toNat, none⟩ (.int .i64 l)) w2.heap.size (icells (inv (bat k xs) (l + 1))) 2 := by
                have := hO.set ((bat k xs).getD l 0).toNat (.int .i64 l)
                rw [icells_set] at this
                exact this
              obtain ⟨y, hy⟩ : ∃ y : Nat, (bat k xs).getD l 0 = y := ⟨((bat k xs).getD l 0).toNat, by omega⟩
              rw [hy] at c1 rg hset
              rw [Int.toNat_natCast] at hset
              have c2 := hO.cell y
              rw [icells_get _ _ (by rw [hlen, hbl.out]; omega)] at c2
              have f2 := hO.free y
              have hI2 := hI.only (Only.set w2.heap.size y w5 (.int .i64 l)) hne.out
              have hB2 := hB.setCell (p := ⟨w2.heap.size, y, none⟩) (by simpa using hsz) (.int .i64 l)
              have K1 := Lib.hid hset
              have K2 := Lib.hid hI2
              have y1 : (y : Int) < k := rg.2
              clear hset hI2 hlen hy
              go_wp2
              go_roundw
              case rel => exact ⟨l + 1, by omega, by go_num, K2.out, K1.out, hB2⟩
              case measure => simp [intOf]; omega
            · have hl2 : l = k := by omega
              subst hl2
              rw [hbp.out] at hO
              have hM := Mn.new hsz hO
              go_wp2
              go_ret
              exact ⟨⟨_, _, by rw [hpl.out]; rfl, hM⟩, hB⟩
end Go.Proofs.Ytfhplhnaijhjlaa
