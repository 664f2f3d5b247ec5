/- textOfDiagram and compareDiagrams, with what they draw. -/
import Derived.Test.YtbibmncepjmgcaaKc
import Derived.Lib.QuietBelow
namespace Go.Proofs.Ytbibmncepjmgcaa
open Go.RowKit
set_option linter.unusedVariables false
set_option maxRecDepth 100000 in
set_option maxHeartbeats 1000000 in
theorem textD_nat (N : Nat) (ms : List Int) (hms : ms.length = 16) (hb : Bytes ms) (w : World) (h1 : 1 ≤ N) (h8 : N ≤ 8) :
    Calls Try.prog 108 #[.agg (dcells N ms)] w fun e w' => e = .returned (.string (strOfNums (letL N ms N (2 * N)))) ∧ Below w.heap.size w w' ∧ w'.drawn = w.drawn := by
  have hl := Lib.hid hms
  have hbb := Lib.hid hb
  have c0 := dcells_zero N ms
  have hmk := makeN N h1 h8
  clear hms hb
  go_enter Try.func108, Try.ntmps108
  go_wp2
  clear hmk c0
  go_loopw [14] (fun i wr => ∃ k : Nat, k ≤ 2 * N ∧ i = .int .i64 k ∧ Own wr w.heap.size (dcells N ms) 53 ∧ Own wr (w.heap.size + 1) (mcells (letL N ms N k)) 5 ∧ Below w.heap.size w wr ∧ wr.drawn = w.drawn) (fun i _ => (2 * N - intOf i).toNat)
  case atStart => exact ⟨0, by omega, rfl, Own.alloc (Own.new _ _ _) _, Own.at _ _ _ (by simp), ((Below.refl _ _).alloc (Nat.le_refl _) _).alloc (by simp) _, rfl⟩
  case round =>
    obtain ⟨k, hk, rfl, hO, hT, hB, hdr⟩ := hrel
    have hll := letL_len N ms N k
    by_cases hlt : k < 2 * N
    · have pb := pl_bd N k (by omega) (by omega) (by omega)
      obtain ⟨p, hp⟩ : ∃ p, pl N k = p := ⟨_, rfl⟩
      rw [hp] at pb
      have c1 : wr.cell? ⟨w.heap.size, 1 + p.toNat, none⟩ = some (.int .u8 (ms.getD p.toNat 0)) := by rw [hO.cell, dcells_get _ _ _ (by rw [hl.out]; omega)]
      obtain ⟨m, hm⟩ : ∃ m, ms.getD p.toNat 0 = m := ⟨_, rfl⟩
      have mb := hbb.out.get p.toNat
      rw [hm] at c1 mb
      have hch := Lib.hid (show chAt N ms k = if (k : Int) < pl N m then 40 else 41 by unfold chAt; rw [hp, hm])
      have c2 : wr.cell? ⟨w.heap.size + 1, k, none⟩ = some (.int .u8 ((letL N ms N k).getD k 0)) := by rw [hT.cell, mcells_get _ _ (by omega)]
      have c3 : (wr.setCell ⟨w.heap.size + 1, k, none⟩ (.int .u8 41)).cell? ⟨w.heap.size + 1, k, none⟩ = some (.int .u8 41) := by rw [(hT.set _ _).cell, mcells_set, mcells_get _ _ (by simp; omega)]; simp [hll, hlt]
      have f2 := hT.free k
      have hP := Lib.hid hp
      have hM := Lib.hid hm
      have hLL := Lib.hid hll
      clear hp hm hll
      by_cases hc : (k : Int) < pl N m
      · have hT2 : Own ((wr.setCell ⟨w.heap.size + 1, k, none⟩ (.int .u8 41)).setCell ⟨w.heap.size + 1, k, none⟩ (.int .u8 40)) (w.heap.size + 1) (mcells (letL N ms N (k + 1))) 5 := by
          have := (hT.set k (.int .u8 41)).set k (.int .u8 40)
          rw [mcells_set, mcells_set, List.set_set] at this
          rw [letL, hch.out, if_pos hc]; exact this
        have hO2 : Own ((wr.setCell ⟨w.heap.size + 1, k, none⟩ (.int .u8 41)).setCell ⟨w.heap.size + 1, k, none⟩ (.int .u8 40)) w.heap.size (dcells N ms) 53 := (hO.other (by simp) _).other (by simp) _
        have hB2 : Below w.heap.size w ((wr.setCell ⟨w.heap.size + 1, k, none⟩ (.int .u8 41)).setCell ⟨w.heap.size + 1, k, none⟩ (.int .u8 40)) := (hB.setCell (by simp) _).setCell (by simp) _
        have K1 := Lib.hid hT2
        have K2 := Lib.hid hO2
        have K3 := Lib.hid hB2
        have KD := Lib.hid (show ((wr.setCell ⟨w.heap.size + 1, k, none⟩ (.int .u8 41)).setCell ⟨w.heap.size + 1, k, none⟩ (.int .u8 40)).drawn = w.drawn from hdr)
        clear hT2 hO2 hB2 hT hdr
        go_wp2_with (first
          | (go_at_call 117; ((with_reducible refine ((pointI_any N k _ (by omega) (by omega) (by omega) (by omega)).mono (fun e w' h => (by rw [hP.out] at h; exact h : e = .returned (.int .i64 p) ∧ _))).mono ?_); rintro e w0 ⟨rfl, rfl⟩))
          | (go_at_call 118; ((with_reducible refine (placeI_any N m _ (by omega) (by omega) (by omega) (by omega)).mono ?_); rintro e w0 ⟨rfl, rfl⟩)))
        go_roundw
        case rel => exact ⟨k + 1, by omega, by go_num, K2.out, K1.out, K3.out, KD.out⟩
        case measure => simp [intOf]; omega
      · have hT2 : Own (wr.setCell ⟨w.heap.size + 1, k, none⟩ (.int .u8 41)) (w.heap.size + 1) (mcells (letL N ms N (k + 1))) 5 := by
          have := hT.set k (.int .u8 41)
          rw [mcells_set] at this
          rw [letL, hch.out, if_neg hc]; exact this
        have hO2 : Own (wr.setCell ⟨w.heap.size + 1, k, none⟩ (.int .u8 41)) w.heap.size (dcells N ms) 53 := hO.other (by simp) _
        have hB2 : Below w.heap.size w (wr.setCell ⟨w.heap.size + 1, k, none⟩ (.int .u8 41)) := hB.setCell (by simp) _
        have K1 := Lib.hid hT2
        have K2 := Lib.hid hO2
        have K3 := Lib.hid hB2
        have KD := Lib.hid (show ((wr.setCell ⟨w.heap.size + 1, k, none⟩ (.int .u8 41))).drawn = w.drawn from hdr)
        clear hT2 hO2 hB2 hT hdr
        go_wp2_with (first
          | (go_at_call 117; ((with_reducible refine ((pointI_any N k _ (by omega) (by omega) (by omega) (by omega)).mono (fun e w' h => (by rw [hP.out] at h; exact h : e = .returned (.int .i64 p) ∧ _))).mono ?_); rintro e w0 ⟨rfl, rfl⟩))
          | (go_at_call 118; ((with_reducible refine (placeI_any N m _ (by omega) (by omega) (by omega) (by omega)).mono ?_); rintro e w0 ⟨rfl, rfl⟩)))
        go_roundw
        case rel => exact ⟨k + 1, by omega, by go_num, K2.out, K1.out, K3.out, KD.out⟩
        case measure => simp [intOf]; omega
    · have hk2 : k = 2 * N := by omega
      subst hk2
      have hcv := run_convert_bytes_arg wr 99 5 Try.underlying99 Try.underlying5 (w.heap.size + 1) 0 (2 * N) (2 * N) (letL N ms N (2 * N)) hll
        (fun i hi => by rw [Nat.zero_add, hT.cell, mcells_get _ _ (by omega)]) 9 Try.underlying9
      have HLL := Lib.hid hll
      have KD := Lib.hid hdr
      clear hll hdr
      go_wp2
      go_ret
      exact ⟨rfl, hB, KD.out⟩
theorem textD_any (n : Int) (ms : List Int) (hms : ms.length = 16) (hb : Bytes ms) (w : World) (h1 : 1 ≤ n) (h8 : n ≤ 8) :
    Calls Try.prog 108 #[.agg (dcells n ms)] w fun e w' => e = .returned (.string (textS n ms)) ∧ Below w.heap.size w w' ∧ w'.drawn = w.drawn := by
  have h := textD_nat n.toNat ms hms hb w (by omega) (by omega)
  have e1 : ((n.toNat : Nat) : Int) = n := by omega
  rw [e1] at h
  exact h
set_option maxRecDepth 100000 in
set_option maxHeartbeats 2000000 in
theorem cmpDd_any (n1 n2 : Int) (ms es : List Int) (hms : ms.length = 16) (hes : es.length = 16) (hb1 : Bytes ms) (hb2 : Bytes es) (h11 : 1 ≤ n1) (h18 : n1 ≤ 8) (h21 : 1 ≤ n2) (h28 : n2 ≤ 8) (w : World) :
    Calls Try.prog 76 #[.agg (dcells n1 ms), .agg (dcells n2 es)] w fun e w' => e = .returned (.int .i64 (Extern.BytealgCompare.cmp (textS n1 ms) (textS n2 es))) ∧ Below w.heap.size w w' ∧ w.drawn ≤ w'.drawn := by
  have hl := Lib.hid hms
  have hl2 := Lib.hid hes
  have hT1 := Lib.hid (fun w => textD_any n1 ms hms hb1 w h11 h18)
  have hT2 := Lib.hid (fun w => textD_any n2 es hes hb2 w h21 h28)
  have hC := Lib.hid (fun w => cmp57 (textS n1 ms) (textS n2 es) w)
  generalize textS n1 ms = s1 at *
  generalize textS n2 es = s2 at *
  generalize Extern.BytealgCompare.cmp s1 s2 = r at *
  clear hms hes hb1 hb2 h11 h18 h21 h28
  go_enter Try.func76, Try.ntmps76
  go_wp2_with fail
  have hA1 : Own (((w.alloc (.cells (dcells n1 ms) 53)).alloc (.cells (dcells n2 es) 53)).drew) w.heap.size (dcells n1 ms) 53 := (Own.new _ _ _).alloc _
  have hA2 : Own (((w.alloc (.cells (dcells n1 ms) 53)).alloc (.cells (dcells n2 es) 53)).drew) (w.heap.size + 1) (dcells n2 es) 53 := Own.at _ _ _ (by simp)
  have b1 : Below w.heap.size w (((w.alloc (.cells (dcells n1 ms) 53)).alloc (.cells (dcells n2 es) 53)).drew) := (((Below.refl _ _).alloc (Nat.le_refl _) _).alloc (by simp) _).drew
  obtain ⟨wd, hwd⟩ : ∃ wd, (((w.alloc (.cells (dcells n1 ms) 53)).alloc (.cells (dcells n2 es) 53)).drew) = wd := ⟨_, rfl⟩
  rw [hwd] at hA1 hA2 b1
  have hlt1 := hA1.lt
  have hlt2 := hA2.lt
  refine wp_region_facts (by kernel_rfl) (by kernel_rfl) (fun a w' => ∃ x4 x5 x6 x7 x8 x9 : Value, a = ⟨List.toArray [.agg (dcells n1 ms), .agg (dcells n2 es), .pointer (some ⟨w.heap.size, 0, none⟩), .pointer (some ⟨w.heap.size + 1, 0, none⟩), x4, x5, x6, x7, x8, x9], []⟩ ∧ Below wd.heap.size wd w' ∧ wd.drawn ≤ w'.drawn) (fun j a w' => match j with | 0 => sl a 5 = .agg (dcells n1 ms) | 1 => sl a 6 = .string s1 | 2 => sl a 7 = .agg (dcells n2 es) | 3 => sl a 8 = .string s2 | 4 => sl a 9 = .int .i64 r | 5 => sl a 4 = .int .i64 r | _ => True) ⟨_, _, _, _, _, _, rfl, by rw [← hwd]; exact Below.refl _ _, by rw [← hwd]; exact Nat.le_refl _⟩ ?_ ?_
  · refine (AllOps.cons ?_ (AllOps.cons ?_ (AllOps.cons ?_ (AllOps.cons ?_ (AllOps.cons ?_ (AllOps.cons ?_ AllOps.nil))))))
    · rintro a w0 ⟨x4, x5, x6, x7, x8, x9, rfl, hB, hdr⟩ hd K hK
      go_wp2_with (first | (refine wpList_load_row rfl 53 _ rfl _ rfl 53 _ (0, 0) _ (hA1.below hB hlt1) Try.underlying53 rfl (row26 (d17 _ _ (hl.out))) ?_))
      refine hK _ _ ⟨_, _, _, _, _, _, rfl, hB, hdr⟩ (rfl) ?_
      rintro (_|_|_|_|_|_|_) hj hn h <;> first | exact h | exact absurd rfl hj | exact waits_no hn (by kernel_rfl)
    · rintro a w0 ⟨x4, x5, x6, x7, x8, x9, rfl, hB, hdr⟩ hd K hK
      have d0 : x5 = _ := hd 0 (by kernel_rfl)
      subst d0
      go_wp2_with (first | (go_at_call 108; ((with_reducible refine (hT1.out _).mono ?_); rintro e w2 ⟨rfl, hB2, hd2⟩)))
      refine hK _ _ ⟨_, _, _, _, _, _, rfl, hB.trans (hB2.mono hB.size), by omega⟩ (rfl) ?_
      rintro (_|_|_|_|_|_|_) hj hn h <;> first | exact h | exact absurd rfl hj | exact waits_no hn (by kernel_rfl)
    · rintro a w0 ⟨x4, x5, x6, x7, x8, x9, rfl, hB, hdr⟩ hd K hK
      go_wp2_with (first | (refine wpList_load_row rfl 53 _ rfl _ rfl 53 _ (0, 0) _ (hA2.below hB hlt2) Try.underlying53 rfl (row26 (d17 _ _ (hl2.out))) ?_))
      refine hK _ _ ⟨_, _, _, _, _, _, rfl, hB, hdr⟩ (rfl) ?_
      rintro (_|_|_|_|_|_|_) hj hn h <;> first | exact h | exact absurd rfl hj | exact waits_no hn (by kernel_rfl)
    · rintro a w0 ⟨x4, x5, x6, x7, x8, x9, rfl, hB, hdr⟩ hd K hK
      have d0 : x7 = _ := hd 2 (by kernel_rfl)
      subst d0
      go_wp2_with (first | (go_at_call 108; ((with_reducible refine (hT2.out _).mono ?_); rintro e w2 ⟨rfl, hB2, hd2⟩)))
      refine hK _ _ ⟨_, _, _, _, _, _, rfl, hB.trans (hB2.mono hB.size), by omega⟩ (rfl) ?_
      rintro (_|_|_|_|_|_|_) hj hn h <;> first | exact h | exact absurd rfl hj | exact waits_no hn (by kernel_rfl)
    · rintro a w0 ⟨x4, x5, x6, x7, x8, x9, rfl, hB, hdr⟩ hd K hK
      have d0 : x6 = _ := hd 1 (by kernel_rfl)
      have d1 : x8 = _ := hd 3 (by kernel_rfl)
      subst d0 d1
      go_wp2_with (first | (go_at_call 109; ((with_reducible refine (hC.out _).mono ?_); rintro e w2 ⟨rfl, hw2⟩)))
      subst hw2
      refine hK _ _ ⟨_, _, _, _, _, _, rfl, hB, hdr⟩ (rfl) ?_
      rintro (_|_|_|_|_|_|_) hj hn h <;> first | exact h | exact absurd rfl hj | exact waits_no hn (by kernel_rfl)
    · rintro a w0 ⟨x4, x5, x6, x7, x8, x9, rfl, hB, hdr⟩ hd K hK
      have d0 : x9 = _ := hd 4 (by kernel_rfl)
      subst d0
      go_wp2
      refine hK _ _ ⟨_, _, _, _, _, _, rfl, hB, hdr⟩ (rfl) ?_
      rintro (_|_|_|_|_|_|_) hj hn h <;> first | exact h | exact absurd rfl hj | exact waits_no hn (by kernel_rfl)
  · rintro a w0 ⟨x4, x5, x6, x7, x8, x9, rfl, hB, hdr⟩ hd
    have d0 : x4 = _ := hd 5 (by decide)
    subst d0
    go_wp2
    go_ret
    exact ⟨rfl, b1.trans (hB.mono b1.size), by have : wd.drawn = w.drawn + 1 := (by rw [← hwd]; rfl); omega⟩
theorem grown_of_below {w w' : World} (h : Below w.heap.size w w') (hd : w.drawn ≤ w'.drawn) : ∃ q os, w' = Sort.grow (w.drewN q) os := by
  refine ⟨w'.drawn - w.drawn, w'.heap.extract w.heap.size w'.heap.size, ?_⟩
  obtain ⟨p, hp⟩ := regrown_of_below h
  obtain ⟨⟨d, os⟩, hp⟩ : ∃ p : Regrown, w' = Sort.grow (redrawn w p.d) p.os := ⟨p, hp⟩
  have e1 : w'.drawn = d := by rw [hp]; rfl
  have e2 : w'.heap = w.heap ++ os := by rw [hp]; rfl
  have e3 : w'.heap.extract w.heap.size w'.heap.size = os := by
    rw [e2]
    simp
  rw [e3, hp]
  show Sort.grow (redrawn w d) os = Sort.grow (w.drewN (_ - w.drawn)) os
  congr 1
  show ({ w with drawn := d } : World) = { w with drawn := w.drawn + (_ - w.drawn) }
  congr 1
  have : (Sort.grow (redrawn w d) os).drawn = d := rfl
  rw [hp] at hd
  have hd' : w.drawn ≤ d := hd
  rw [this]
  omega
end Go.Proofs.Ytbibmncepjmgcaa
