/- Laws of a slice of bytes that the call itself made, and the contract of the model's text of a diagram. -/
import Derived.Test.YtdmgmhjclagnpaaDiaB
import Derived.Test.YtdmgmhjclagnpaaBys
namespace Go.Proofs.Ytdmgmhjclagnpaa
open Go.RowKit

/-- The bytes of the first k places. -/
def chs (n : Int) (ms : List Int) : Nat → List Int
  | 0 => []
  | k + 1 => chs n ms k ++ [chAt n ms k]
theorem chs_len (n : Int) (ms : List Int) (k : Nat) : (chs n ms k).length = k := by
  induction k with
  | zero => rfl
  | succ k ih => simp [chs, ih]
theorem chs_get (n : Int) (ms : List Int) (k i : Nat) (h : i < k) : (chs n ms k)[i]? = some (chAt n ms i) := by
  induction k with
  | zero => omega
  | succ k ih =>
    rw [chs]
    by_cases e : i < k
    · rw [List.getElem?_append_left (by rw [chs_len]; exact e)]; exact ih e
    · have : i = k := by omega
      subst this
      rw [List.getElem?_append_right (by rw [chs_len]; omega), chs_len]; simp
theorem chs_let (n : Int) (ms : List Int) (N : Nat) : chs n ms (2 * N) = letL n ms N (2 * N) := by
  apply List.ext_getElem?
  intro i
  by_cases h : i < 2 * N
  · rw [chs_get _ _ _ _ h, letL_get n ms N (2 * N) (Nat.le_refl _) i h]
  · rw [List.getElem?_eq_none (by rw [chs_len]; omega), List.getElem?_eq_none (by rw [letL_len]; omega)]
set_option maxRecDepth 100000 in
set_option maxHeartbeats 1000000 in
theorem textM_nat (N : Nat) (ms : List Int) (hms : ms.length = 16) (hb : Bytes ms) (w : World) (h1 : 1 ≤ N) (h8 : N ≤ 8) :
    Calls Try.prog 66 #[.agg (dcells N ms)] w fun e w' => e = .returned (.string (strOfNums (chs N ms (2 * N)))) ∧ Below w.heap.size w w' := by
  have hl := Lib.hid hms
  have hbb := Lib.hid hb
  have c0 := dcells_zero N ms
  have hmk := mk0b
  clear hms hb
  go_enter Try.func66, Try.ntmps66
  go_wp2
  have hOa : Own ((w.alloc (.cells (dcells N ms) 53)).alloc (.cells #[] 5)) w.heap.size (dcells N ms) 53 := Own.alloc (Own.new _ _ _) _
  have hIa : Bys ((w.alloc (.cells (dcells N ms) 53)).alloc (.cells #[] 5)) (w.heap.size + 1) (w.heap.size + 1) 0 [] := Bys.new _ _ _ _ (by simp) (by simp) (by decide) #[] rfl
  have hBa : Below w.heap.size w ((w.alloc (.cells (dcells N ms) 53)).alloc (.cells #[] 5)) := ((Below.refl _ _).alloc (Nat.le_refl _) _).alloc (by simp) _
  clear hmk
  go_loopw [3, 4] (fun v i wr => ∃ (k : Nat) (g cap : Nat), k ≤ 2 * N ∧ i = .int .i64 k ∧ v = .slice (some ⟨g, 0, none⟩) k cap ∧ Own wr w.heap.size (dcells N ms) 53 ∧ Bys wr (w.heap.size + 1) g cap (chs N ms k) ∧ Below w.heap.size w wr) (fun _ i _ => (2 * N - intOf i).toNat)
  case atStart => exact ⟨0, _, _, by omega, rfl, rfl, hOa, hIa, hBa⟩
  case round =>
    clear hOa hIa hBa
    obtain ⟨k, g, cap, hk, rfl, rfl, hO, hI, hB⟩ := hrel
    have k0 := hO.cell 0
    rw [c0] at k0
    by_cases hlt : k < 2 * N
    · have hltI : (k : Int) < 2 * N := by omega
      have pb := pl_bd N k (by omega) (by omega) (by omega)
      obtain ⟨p, hp⟩ : ∃ p, pl N k = p := ⟨_, rfl⟩
      rw [hp] at pb
      obtain ⟨pb1, pb2, pb3⟩ := pb
      obtain ⟨m, hm⟩ : ∃ m, ms.getD p.toNat 0 = m := ⟨_, rfl⟩
      have c1 : (dcells N ms)[1 + p.toNat]? = some (.int .u8 m) := by rw [dcells_get _ _ _ (by rw [hl.out]; omega), hm]
      have mb := hbb.out.get p.toNat
      rw [hm] at mb
      obtain ⟨mb1, mb2⟩ := mb
      have hch := Lib.hid (show chAt N ms k = if (k : Int) < pl N m then 40 else 41 by unfold chAt; rw [hp, hm])
      have hP := Lib.hid hp
      have C0 := Lib.hid c0
      have C1 := Lib.hid c1
      have hcl := Lib.hid (chs_len N ms k)
      have hs := hB.size
      clear hp hm c0 c1
      go_wp2_with (first
        | (go_at_call 85; ((with_reducible refine ((placeS_any N k _ (by omega) (by omega) (by omega) (by omega)).mono (fun e w' h => (by rw [hP.out] at h; exact h : e = .returned (.int .i64 p) ∧ w' = _))).mono ?_); rintro e w0 ⟨rfl, rfl⟩)))
      clear k0
      refine wp_region_still_lit (by kernel_rfl) (by kernel_rfl) ?_
      have hOd : Own { w0 with drawn := w0.drawn + 1 } w.heap.size (dcells N ms) 53 := hO
      have hBd : Below w.heap.size w { w0 with drawn := w0.drawn + 1 } := hB.drew
      have hId : Bys { w0 with drawn := w0.drawn + 1 } (w.heap.size + 1) g cap (chs N ms k) := hI
      have hsd : w.heap.size ≤ ({ w0 with drawn := w0.drawn + 1 } : World).heap.size := hs
      clear hO hB hI hs
      generalize ({ w0 with drawn := w0.drawn + 1 } : World) = wd at *
      have hO := hOd
      have hB := hBd
      have hI := hId
      clear hOd hBd hId
      have k0 := hO.cell 0
      rw [C0.out] at k0
      have k1 := hO.cell (1 + p.toNat)
      rw [C1.out] at k1
      have hp16 : p < 16 := pb3
      have cm := Lib.hid (placeS_any N m wd (by omega) (by omega) mb1 mb2)
      have hwr : IntKind.i64.wrap m = m := IntWalk.i64_in _ (by omega)
      still_step
      still_step
      still_step
      still_step
      still_step
      still_step
      still_step
      still_call cm.out
      still_step
      still_step
      refine wpStill_nil ?_
      clear hwr k0 k1
      by_cases g0 : (k : Int) < pl N m
      · have e1 := Lib.hid (show chs N ms (k + 1) = chs N ms k ++ [40] by rw [chs, hch.out, if_pos g0])
        clear hch
        go_wp2_with (first
          | (refine wpList_append_bys rfl (.tmp 28) (.tmp 29) rfl (w.heap.size + 1) g cap (chs N ms k) 40 (by rw [bval, hcl.out]; rfl) (hI.alloc _) ⟨wd.heap.size, 0, none⟩ 1 rfl ((Own.new _ _ _).cell 0) (by rw [hcl.out]; omega) (by simp; have := hO.lt; omega) ?_; intro g2 cap2 w2 hI2 hG2))
        have hO2 := (hO.alloc _).grown hG2 (by have := hI.1; omega)
        have hB2 : Below w.heap.size w w2 := (hB.alloc hsd _).grown hG2 (by simp; omega) (fun k e => by have := hI.1; simp at e; omega)
        rw [← e1.out] at hI2
        clear hO hB hI hG2
        go_wp2
        go_roundw
        case rel => exact ⟨k + 1, g2, cap2, by omega, by go_num, by simp [bval, hcl.out], hO2, hI2, hB2⟩
        case measure => simp [intOf]; omega
      · have e1 := Lib.hid (show chs N ms (k + 1) = chs N ms k ++ [41] by rw [chs, hch.out, if_neg g0])
        clear hch
        go_wp2_with (first
          | (refine wpList_append_bys rfl (.tmp 31) (.tmp 32) rfl (w.heap.size + 1) g cap (chs N ms k) 41 (by rw [bval, hcl.out]; rfl) (hI.alloc _) ⟨wd.heap.size, 0, none⟩ 1 rfl ((Own.new _ _ _).cell 0) (by rw [hcl.out]; omega) (by simp; have := hO.lt; omega) ?_; intro g2 cap2 w2 hI2 hG2))
        have hO2 := (hO.alloc _).grown hG2 (by have := hI.1; omega)
        have hB2 : Below w.heap.size w w2 := (hB.alloc hsd _).grown hG2 (by simp; omega) (fun k e => by have := hI.1; simp at e; omega)
        rw [← e1.out] at hI2
        clear hO hB hI hG2
        go_wp2
        go_roundw
        case rel => exact ⟨k + 1, g2, cap2, by omega, by go_num, by simp [bval, hcl.out], hO2, hI2, hB2⟩
        case measure => simp [intOf]; omega
    · have hk2 : k = 2 * N := by omega
      subst hk2
      have hlen := chs_len N ms (2 * N)
      obtain ⟨_, _, _, cur, hcur, hcs, hct⟩ := hI
      have hcv := run_convert_bytes_arg wr 106 5 Try.underlying106 Try.underlying5 g 0 (2 * N) cap (chs N ms (2 * N)) hlen
        (fun i hi => by
          rw [Nat.zero_add, hcur.cell]
          have e : (cur.toList.take (chs N ms (2 * N)).length)[i]? = ((chs N ms (2 * N)).map (Value.int .u8))[i]? := by rw [hct]
          rw [List.getElem?_take_of_lt (by rw [hlen]; exact hi)] at e
          simpa [show i < (chs N ms (2 * N)).length by rw [hlen]; exact hi] using e) 9 Try.underlying9
      have HL := Lib.hid hlen
      have HT := Lib.hid hct
      clear hlen hct hcs c0
      go_wp2
      go_ret
      exact ⟨rfl, hB⟩
theorem textM_any (n : Int) (ms : List Int) (hms : ms.length = 16) (hb : Bytes ms) (w : World) (h1 : 1 ≤ n) (h8 : n ≤ 8) :
    Calls Try.prog 66 #[.agg (dcells n ms)] w fun e w' => e = .returned (.string (textS n ms)) ∧ Below w.heap.size w w' := by
  have h := textM_nat n.toNat ms hms hb w (by omega) (by omega)
  have e1 : ((n.toNat : Nat) : Int) = n := by omega
  rw [e1, chs_let] at h
  exact h
end Go.Proofs.Ytdmgmhjclagnpaa
