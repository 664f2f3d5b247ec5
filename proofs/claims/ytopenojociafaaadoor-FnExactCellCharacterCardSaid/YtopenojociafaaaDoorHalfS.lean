/- The contract of the model's half of a diagram. -/
import Derived.Test.YtopenojociafaaaDoorHalfI
namespace Go.Proofs.YtopenojociafaaaDoor
open Go.RowKit
set_option maxRecDepth 100000 in
set_option maxHeartbeats 1000000 in
theorem halfS_up_nat (N : Nat) (ms : List Int) (hms : ms.length = 16) (hb : Bytes ms) (w : World) (h1 : 1 ≤ N) (h8 : N ≤ 8) :
    Calls Tryd.prog 78 #[.agg (dcells N ms), .bool false] w fun e w' => e = .returned (.string (strOfNums (hfL N 0 ms N))) ∧ Below w.heap.size w w' := by
  have hl := Lib.hid hms
  have hbb := Lib.hid hb
  have c0 := dcells_zero N ms
  have hmk := mk0b
  have hOa : Own ((w.alloc (.cells (dcells N ms) 32)).alloc (.cells #[] 5)) w.heap.size (dcells N ms) 32 := Own.alloc (Own.new _ _ _) _
  have hIa : Bys ((w.alloc (.cells (dcells N ms) 32)).alloc (.cells #[] 5)) (w.heap.size + 1) (w.heap.size + 1) 0 [] := Bys.new _ _ _ _ (by simp) (by simp) (by decide) #[] rfl
  have hBa : Below w.heap.size w ((w.alloc (.cells (dcells N ms) 32)).alloc (.cells #[] 5)) := ((Below.refl _ _).alloc (Nat.le_refl _) _).alloc (by simp) _
  have ca := hOa.cell 0
  rw [c0] at ca
  have A1 := Lib.hid hOa
  have A2 := Lib.hid hIa
  have A3 := Lib.hid hBa
  clear hms hb c0 hOa hIa hBa
  go_enter Tryd.func78, Tryd.ntmps78
  go_wp2
  clear hmk ca
  go_loopw [5, 7] (fun v i wr => ∃ (k : Nat) (g cap : Nat), k ≤ N ∧ i = .int .i64 ((k : Int)) ∧ v = .slice (some ⟨g, 0, none⟩) k cap ∧ Own wr w.heap.size (dcells N ms) 32 ∧ Bys wr (w.heap.size + 1) g cap (hfL N 0 ms k) ∧ Below w.heap.size w wr) (fun _ i _ => (2 * N - intOf i).toNat)
  case atStart => exact ⟨0, _, _, by omega, by simp, rfl, A1.out, A2.out, A3.out⟩
  case round =>
    obtain ⟨k, g, cap, hk, rfl, rfl, hO, hI, hB⟩ := hrel
    have k0 := hO.cell 0
    rw [dcells_zero] at k0
    have hcl := Lib.hid (hfL_len N 0 ms k)
    by_cases hlt : k < N
    · have hltI : (k : Int) < N := by omega
      obtain ⟨p, hp⟩ : ∃ p : Int, (k : Int) = p := ⟨_, rfl⟩
      have hp0 : 0 ≤ p := by omega
      have hp16 : p < 16 := by omega
      have hpN : p.toNat = 0 + k := by omega
      have hpl : p < 0 + N := by omega
      have c1 : wr.cell? ⟨w.heap.size, 1 + p.toNat, none⟩ = some (.int .u8 (ms.getD p.toNat 0)) := by rw [hO.cell, dcells_get _ _ _ (by rw [hl.out]; omega)]
      obtain ⟨m, hm⟩ : ∃ m, ms.getD p.toNat 0 = m := ⟨_, rfl⟩
      have mb := hbb.out.get p.toNat
      rw [hm] at c1 mb
      obtain ⟨mb1, mb2⟩ := mb
      have hwr : IntKind.i64.wrap m = m := IntWalk.i64_in _ (by omega)
      have HCH := Lib.hid (show hch N 0 (ms.getD ((0 : Int).toNat + k) 0) k = if m - 0 < 0 ∨ (N : Int) ≤ m - 0 then 124 else if (k : Int) < m - 0 then 40 else 41 by unfold hch; rw [show (0 : Int).toNat + k = p.toNat by rw [hpN]; simp, hm])
      have hnx : ∀ x : Int, hch N 0 (ms.getD ((0 : Int).toNat + k) 0) k = x → hfL N 0 ms (k + 1) = hfL N 0 ms k ++ [x] := fun x hx => by rw [← hx]; rfl
      have X := Lib.hid hnx
      have HP := Lib.hid hp
      have hpm : p + 1 = ((k + 1 : Nat) : Int) := by omega
      have HM := Lib.hid hpm
      have hpk := Lib.hid (show p - 0 = k by omega)
      rw [hp]
      clear hnx hm hpN hp hpm
      by_cases g1 : m < 0 ∨ (N : Int) - 1 < m
      · have e1 := Lib.hid (X.out 124 (by rw [HCH.out, if_pos (by omega)]))
        clear HCH
        go_wp2_with (first
          | (go_at_call 65; ((with_reducible refine (inS_f m 0 ((N : Int) - 1) _ g1).mono ?_); rintro e w0 ⟨rfl, rfl⟩))
          | (refine wpList_append_bys rfl (.tmp 40) (.tmp 41) rfl (w.heap.size + 1) g cap (hfL N 0 ms k) 124 (by rw [bval, hcl.out]; rfl) (hI.alloc _) ⟨wr.heap.size, 0, none⟩ 1 rfl ((Own.new _ _ _).cell 0) (by rw [hcl.out]; omega) (by simp; have := hO.lt; omega) ?_; intro g2 cap2 w2 hI2 hG2))
        have hO2 := (hO.alloc _).grown hG2 (by have := hI.1; omega)
        have hB2 : Below w.heap.size w w2 := (hB.alloc hB.size _).grown hG2 (by have := hB.size; simp; omega) (fun k e => by have := hI.1; simp at e; omega)
        rw [← e1.out] at hI2
        clear hO hB hI hG2
        go_wp2
        go_roundw
        case rel => exact ⟨k + 1, g2, cap2, by omega, by rw [HM.out], by simp [bval, hcl.out], hO2, hI2, hB2⟩
        case measure => have := HP.out; simp [intOf] <;> omega
      · have g1a : 0 ≤ m := by omega
        have g1b : m ≤ (N : Int) - 1 := by omega
        by_cases g3 : p < m
        · have e1 := Lib.hid (X.out 40 (by have := HP.out; rw [HCH.out, if_neg (by omega), if_pos (by omega)]))
          clear HCH
          go_wp2_with (first
            | (go_at_call 65; ((with_reducible refine (inS_t m 0 ((N : Int) - 1) _ g1a g1b).mono ?_); rintro e w0 ⟨rfl, rfl⟩))
            | (refine wpList_append_bys rfl (.tmp 47) (.tmp 48) rfl (w.heap.size + 1) g cap (hfL N 0 ms k) 40 (by rw [bval, hcl.out]; rfl) (hI.alloc _) ⟨wr.heap.size, 0, none⟩ 1 rfl ((Own.new _ _ _).cell 0) (by rw [hcl.out]; omega) (by simp; have := hO.lt; omega) ?_; intro g2 cap2 w2 hI2 hG2))
          have hO2 := (hO.alloc _).grown hG2 (by have := hI.1; omega)
          have hB2 : Below w.heap.size w w2 := (hB.alloc hB.size _).grown hG2 (by have := hB.size; simp; omega) (fun k e => by have := hI.1; simp at e; omega)
          rw [← e1.out] at hI2
          clear hO hB hI hG2
          go_wp2
          go_roundw
          case rel => exact ⟨k + 1, g2, cap2, by omega, by rw [HM.out], by simp [bval, hcl.out], hO2, hI2, hB2⟩
          case measure => have := HP.out; simp [intOf] <;> omega
        · have e1 := Lib.hid (X.out 41 (by have := HP.out; rw [HCH.out, if_neg (by omega), if_neg (by omega)]))
          clear HCH
          go_wp2_with (first
            | (go_at_call 65; ((with_reducible refine (inS_t m 0 ((N : Int) - 1) _ g1a g1b).mono ?_); rintro e w0 ⟨rfl, rfl⟩))
            | (refine wpList_append_bys rfl (.tmp 27) (.tmp 28) rfl (w.heap.size + 1) g cap (hfL N 0 ms k) 41 (by rw [bval, hcl.out]; rfl) (hI.alloc _) ⟨wr.heap.size, 0, none⟩ 1 rfl ((Own.new _ _ _).cell 0) (by rw [hcl.out]; omega) (by simp; have := hO.lt; omega) ?_; intro g2 cap2 w2 hI2 hG2))
          have hO2 := (hO.alloc _).grown hG2 (by have := hI.1; omega)
          have hB2 : Below w.heap.size w w2 := (hB.alloc hB.size _).grown hG2 (by have := hB.size; simp; omega) (fun k e => by have := hI.1; simp at e; omega)
          rw [← e1.out] at hI2
          clear hO hB hI hG2
          go_wp2
          go_roundw
          case rel => exact ⟨k + 1, g2, cap2, by omega, by rw [HM.out], by simp [bval, hcl.out], hO2, hI2, hB2⟩
          case measure => have := HP.out; simp [intOf] <;> omega
    · have hk2 : k = N := by omega
      subst hk2
      obtain ⟨_, _, _, cur, hcur, hcs, hct⟩ := hI
      have hlen := hfL_len k 0 ms k
      have hcv := run_convert_bytes_arg wr 69 5 Tryd.underlying69 Tryd.underlying5 g 0 k cap (hfL k 0 ms k) hlen
        (fun i hi => by
          rw [Nat.zero_add, hcur.cell]
          have e : (cur.toList.take (hfL k 0 ms k).length)[i]? = ((hfL k 0 ms k).map (Value.int .u8))[i]? := by rw [hct]
          rw [List.getElem?_take_of_lt (by rw [hlen]; exact hi)] at e
          simpa [show i < (hfL k 0 ms k).length by rw [hlen]; exact hi] using e) 9 Tryd.underlying9
      have HL := Lib.hid hlen
      have HT := Lib.hid hct
      clear hlen hct hcs
      go_wp2
      go_ret
      exact ⟨rfl, hB⟩
set_option maxRecDepth 100000 in
set_option maxHeartbeats 1000000 in
theorem halfS_lo_nat (N : Nat) (ms : List Int) (hms : ms.length = 16) (hb : Bytes ms) (w : World) (h1 : 1 ≤ N) (h8 : N ≤ 8) :
    Calls Tryd.prog 78 #[.agg (dcells N ms), .bool true] w fun e w' => e = .returned (.string (strOfNums (hfL N (N : Int) ms N))) ∧ Below w.heap.size w w' := by
  have hl := Lib.hid hms
  have hbb := Lib.hid hb
  have c0 := dcells_zero N ms
  have hmk := mk0b
  have hOa : Own ((w.alloc (.cells (dcells N ms) 32)).alloc (.cells #[] 5)) w.heap.size (dcells N ms) 32 := Own.alloc (Own.new _ _ _) _
  have hIa : Bys ((w.alloc (.cells (dcells N ms) 32)).alloc (.cells #[] 5)) (w.heap.size + 1) (w.heap.size + 1) 0 [] := Bys.new _ _ _ _ (by simp) (by simp) (by decide) #[] rfl
  have hBa : Below w.heap.size w ((w.alloc (.cells (dcells N ms) 32)).alloc (.cells #[] 5)) := ((Below.refl _ _).alloc (Nat.le_refl _) _).alloc (by simp) _
  have ca := hOa.cell 0
  rw [c0] at ca
  have A1 := Lib.hid hOa
  have A2 := Lib.hid hIa
  have A3 := Lib.hid hBa
  clear hms hb c0 hOa hIa hBa
  go_enter Tryd.func78, Tryd.ntmps78
  go_wp2
  clear hmk ca
  go_loopw [5, 7] (fun v i wr => ∃ (k : Nat) (g cap : Nat), k ≤ N ∧ i = .int .i64 ((N : Int) + (k : Int)) ∧ v = .slice (some ⟨g, 0, none⟩) k cap ∧ Own wr w.heap.size (dcells N ms) 32 ∧ Bys wr (w.heap.size + 1) g cap (hfL N (N : Int) ms k) ∧ Below w.heap.size w wr) (fun _ i _ => (2 * N - intOf i).toNat)
  case atStart => exact ⟨0, _, _, by omega, by simp, rfl, A1.out, A2.out, A3.out⟩
  case round =>
    obtain ⟨k, g, cap, hk, rfl, rfl, hO, hI, hB⟩ := hrel
    have k0 := hO.cell 0
    rw [dcells_zero] at k0
    have hcl := Lib.hid (hfL_len N (N : Int) ms k)
    by_cases hlt : k < N
    · have hltI : (k : Int) < N := by omega
      obtain ⟨p, hp⟩ : ∃ p : Int, (N : Int) + (k : Int) = p := ⟨_, rfl⟩
      have hp0 : 0 ≤ p := by omega
      have hp16 : p < 16 := by omega
      have hpN : p.toNat = N + k := by omega
      have hpl : p < (N : Int) + N := by omega
      have c1 : wr.cell? ⟨w.heap.size, 1 + p.toNat, none⟩ = some (.int .u8 (ms.getD p.toNat 0)) := by rw [hO.cell, dcells_get _ _ _ (by rw [hl.out]; omega)]
      obtain ⟨m, hm⟩ : ∃ m, ms.getD p.toNat 0 = m := ⟨_, rfl⟩
      have mb := hbb.out.get p.toNat
      rw [hm] at c1 mb
      obtain ⟨mb1, mb2⟩ := mb
      have hwr : IntKind.i64.wrap m = m := IntWalk.i64_in _ (by omega)
      have HCH := Lib.hid (show hch N (N : Int) (ms.getD (((N : Int) : Int).toNat + k) 0) k = if m - (N : Int) < 0 ∨ (N : Int) ≤ m - (N : Int) then 124 else if (k : Int) < m - (N : Int) then 40 else 41 by unfold hch; rw [show ((N : Int) : Int).toNat + k = p.toNat by rw [hpN]; simp, hm])
      have hnx : ∀ x : Int, hch N (N : Int) (ms.getD (((N : Int) : Int).toNat + k) 0) k = x → hfL N (N : Int) ms (k + 1) = hfL N (N : Int) ms k ++ [x] := fun x hx => by rw [← hx]; rfl
      have X := Lib.hid hnx
      have HP := Lib.hid hp
      have hpm : p + 1 = (N : Int) + ((k + 1 : Nat) : Int) := by omega
      have HM := Lib.hid hpm
      have hpk := Lib.hid (show p - (N : Int) = k by omega)
      rw [hp]
      clear hnx hm hpN hp hpm
      by_cases g1 : m < (N : Int) ∨ (N : Int) + (N : Int) - 1 < m
      · have e1 := Lib.hid (X.out 124 (by rw [HCH.out, if_pos (by omega)]))
        clear HCH
        go_wp2_with (first
          | (go_at_call 65; ((with_reducible refine (inS_f m (N : Int) ((N : Int) + (N : Int) - 1) _ g1).mono ?_); rintro e w0 ⟨rfl, rfl⟩))
          | (refine wpList_append_bys rfl (.tmp 40) (.tmp 41) rfl (w.heap.size + 1) g cap (hfL N (N : Int) ms k) 124 (by rw [bval, hcl.out]; rfl) (hI.alloc _) ⟨wr.heap.size, 0, none⟩ 1 rfl ((Own.new _ _ _).cell 0) (by rw [hcl.out]; omega) (by simp; have := hO.lt; omega) ?_; intro g2 cap2 w2 hI2 hG2))
        have hO2 := (hO.alloc _).grown hG2 (by have := hI.1; omega)
        have hB2 : Below w.heap.size w w2 := (hB.alloc hB.size _).grown hG2 (by have := hB.size; simp; omega) (fun k e => by have := hI.1; simp at e; omega)
        rw [← e1.out] at hI2
        clear hO hB hI hG2
        go_wp2
        go_roundw
        case rel => exact ⟨k + 1, g2, cap2, by omega, by rw [HM.out], by simp [bval, hcl.out], hO2, hI2, hB2⟩
        case measure => have := HP.out; simp [intOf] <;> omega
      · have g1a : (N : Int) ≤ m := by omega
        have g1b : m ≤ (N : Int) + (N : Int) - 1 := by omega
        by_cases g3 : p < m
        · have e1 := Lib.hid (X.out 40 (by have := HP.out; rw [HCH.out, if_neg (by omega), if_pos (by omega)]))
          clear HCH
          go_wp2_with (first
            | (go_at_call 65; ((with_reducible refine (inS_t m (N : Int) ((N : Int) + (N : Int) - 1) _ g1a g1b).mono ?_); rintro e w0 ⟨rfl, rfl⟩))
            | (refine wpList_append_bys rfl (.tmp 47) (.tmp 48) rfl (w.heap.size + 1) g cap (hfL N (N : Int) ms k) 40 (by rw [bval, hcl.out]; rfl) (hI.alloc _) ⟨wr.heap.size, 0, none⟩ 1 rfl ((Own.new _ _ _).cell 0) (by rw [hcl.out]; omega) (by simp; have := hO.lt; omega) ?_; intro g2 cap2 w2 hI2 hG2))
          have hO2 := (hO.alloc _).grown hG2 (by have := hI.1; omega)
          have hB2 : Below w.heap.size w w2 := (hB.alloc hB.size _).grown hG2 (by have := hB.size; simp; omega) (fun k e => by have := hI.1; simp at e; omega)
          rw [← e1.out] at hI2
          clear hO hB hI hG2
          go_wp2
          go_roundw
          case rel => exact ⟨k + 1, g2, cap2, by omega, by rw [HM.out], by simp [bval, hcl.out], hO2, hI2, hB2⟩
          case measure => have := HP.out; simp [intOf] <;> omega
        · have e1 := Lib.hid (X.out 41 (by have := HP.out; rw [HCH.out, if_neg (by omega), if_neg (by omega)]))
          clear HCH
          go_wp2_with (first
            | (go_at_call 65; ((with_reducible refine (inS_t m (N : Int) ((N : Int) + (N : Int) - 1) _ g1a g1b).mono ?_); rintro e w0 ⟨rfl, rfl⟩))
            | (refine wpList_append_bys rfl (.tmp 27) (.tmp 28) rfl (w.heap.size + 1) g cap (hfL N (N : Int) ms k) 41 (by rw [bval, hcl.out]; rfl) (hI.alloc _) ⟨wr.heap.size, 0, none⟩ 1 rfl ((Own.new _ _ _).cell 0) (by rw [hcl.out]; omega) (by simp; have := hO.lt; omega) ?_; intro g2 cap2 w2 hI2 hG2))
          have hO2 := (hO.alloc _).grown hG2 (by have := hI.1; omega)
          have hB2 : Below w.heap.size w w2 := (hB.alloc hB.size _).grown hG2 (by have := hB.size; simp; omega) (fun k e => by have := hI.1; simp at e; omega)
          rw [← e1.out] at hI2
          clear hO hB hI hG2
          go_wp2
          go_roundw
          case rel => exact ⟨k + 1, g2, cap2, by omega, by rw [HM.out], by simp [bval, hcl.out], hO2, hI2, hB2⟩
          case measure => have := HP.out; simp [intOf] <;> omega
    · have hk2 : k = N := by omega
      subst hk2
      obtain ⟨_, _, _, cur, hcur, hcs, hct⟩ := hI
      have hlen := hfL_len k (k : Int) ms k
      have hcv := run_convert_bytes_arg wr 69 5 Tryd.underlying69 Tryd.underlying5 g 0 k cap (hfL k (k : Int) ms k) hlen
        (fun i hi => by
          rw [Nat.zero_add, hcur.cell]
          have e : (cur.toList.take (hfL k (k : Int) ms k).length)[i]? = ((hfL k (k : Int) ms k).map (Value.int .u8))[i]? := by rw [hct]
          rw [List.getElem?_take_of_lt (by rw [hlen]; exact hi)] at e
          simpa [show i < (hfL k (k : Int) ms k).length by rw [hlen]; exact hi] using e) 9 Tryd.underlying9
      have HL := Lib.hid hlen
      have HT := Lib.hid hct
      clear hlen hct hcs
      go_wp2
      go_ret
      exact ⟨rfl, hB⟩
theorem halfS_up (n : Int) (ms : List Int) (hms : ms.length = 16) (hb : Bytes ms) (w : World) (h1 : 1 ≤ n) (h8 : n ≤ 8) :
    Calls Tryd.prog 78 #[.agg (dcells n ms), .bool false] w fun e w' => e = .returned (.string (halfB n 0 ms)) ∧ Below w.heap.size w w' := by
  have h := halfS_up_nat n.toNat ms hms hb w (by omega) (by omega)
  have e1 : ((n.toNat : Nat) : Int) = n := by omega
  rw [e1] at h
  exact h
theorem halfS_lo (n : Int) (ms : List Int) (hms : ms.length = 16) (hb : Bytes ms) (w : World) (h1 : 1 ≤ n) (h8 : n ≤ 8) :
    Calls Tryd.prog 78 #[.agg (dcells n ms), .bool true] w fun e w' => e = .returned (.string (halfB n n ms)) ∧ Below w.heap.size w w' := by
  have h := halfS_lo_nat n.toNat ms hms hb w (by omega) (by omega)
  have e1 : ((n.toNat : Nat) : Int) = n := by omega
  rw [e1] at h
  exact h
end Go.Proofs.YtopenojociafaaaDoor
