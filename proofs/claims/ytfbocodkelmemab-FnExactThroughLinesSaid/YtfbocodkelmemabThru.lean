/- Contracts of ThroughLines, the program's and the model's, and the law. -/
import Derived.Test.YtfbocodkelmemabDiaB
import Derived.Test.YtfbocodkelmemabLawD
import Derived.Deep.QuietTactic
import Derived.BigQuiet
namespace Go.Proofs.Ytfbocodkelmemab
open Go.RowKit
/-- How many of the first k upper points lead to the lower side. -/
def thr (n : Int) (ms : List Int) : Nat → Int
  | 0 => 0
  | k + 1 => if n ≤ ms.getD k 0 then thr n ms k + 1 else thr n ms k
theorem thr_bd (n : Int) (ms : List Int) (k : Nat) : 0 ≤ thr n ms k ∧ thr n ms k ≤ k := by
  induction k with
  | zero => simp [thr]
  | succ k ih => unfold thr; split <;> omega
set_option maxRecDepth 100000 in
set_option maxHeartbeats 400000 in
theorem thruS_any (n : Int) (ms : List Int) (hms : ms.length = 16) (hb : Bytes ms) (w : World) (h1 : 1 ≤ n) (h8 : n ≤ 8) :
    Calls Try.prog 37 #[.agg (dcells n ms)] w fun e w' => e = .returned (.int .i64 (thr n ms n.toNat)) ∧ Below w.heap.size w w' := by
  have hl := Lib.hid hms
  have hbb := Lib.hid hb
  have c0 := dcells_zero n ms
  clear hms hb
  go_enter Try.func37, Try.ntmps37
  go_wp2
  have hOa : Own (w.alloc (.cells (dcells n ms) 25)) w.heap.size (dcells n ms) 25 := Own.new _ _ _
  have hBa : Below w.heap.size w (w.alloc (.cells (dcells n ms) 25)) := (Below.refl _ _).alloc (Nat.le_refl _) _
  generalize w.alloc (.cells (dcells n ms) 25) = wa at *
  go_loopw [3, 4] (fun t i wr => ∃ k : Nat, k ≤ n ∧ i = .int .i64 k ∧ t = .int .i64 (thr n ms k) ∧ Own wr w.heap.size (dcells n ms) 25 ∧ Below w.heap.size w wr) (fun _ i _ => (n - intOf i).toNat)
  case atStart => exact ⟨0, by omega, rfl, rfl, hOa, hBa⟩
  case round =>
    clear hOa hBa
    obtain ⟨k, hk, rfl, rfl, hO, hB⟩ := hrel
    have k0 := hO.cell 0
    rw [c0] at k0
    have tb := thr_bd n ms k
    by_cases hlt : (k : Int) < n
    · have k1 := hO.cell (1 + k)
      rw [dcells_get _ _ _ (by rw [hl.out]; omega)] at k1
      obtain ⟨m, hm⟩ : ∃ m, ms.getD k 0 = m := ⟨_, rfl⟩
      have mb := hbb.out.get k
      rw [hm] at k1 mb
      obtain ⟨mb1, mb2⟩ := mb
      have ht := Lib.hid (show thr n ms (k + 1) = if n ≤ m then thr n ms k + 1 else thr n ms k by rw [thr, hm])
      have hlt16 : (k : Int) < 16 := by omega
      have hwr : IntKind.i64.wrap m = m := IntWalk.i64_in _ (by omega)
      have HW := Lib.hid hwr
      clear hm hwr c0
      by_cases g : n ≤ m
      · have e1 := Lib.hid (ht.out.trans (if_pos g))
        clear ht
        go_wp2
        have hwr := HW.out
        go_quiet (fail)
        clear hwr
        go_wp2
        go_roundw
        case rel => exact ⟨k + 1, by omega, by go_num, by rw [e1.out], hO.drewN _, Below.drewN hB _⟩
        case measure => simp [intOf]; omega
      · have e1 := Lib.hid (ht.out.trans (if_neg g))
        clear ht
        go_wp2
        have hwr := HW.out
        go_quiet (fail)
        clear hwr
        go_wp2
        go_roundw
        case rel => exact ⟨k + 1, by omega, by go_num, by rw [e1.out], hO.drewN _, Below.drewN hB _⟩
        case measure => simp [intOf]; omega
    · have e := Lib.hid (show n.toNat = k by omega)
      clear c0
      go_wp2
      go_ret
      exact ⟨by rw [e.out]; rfl, hB⟩
set_option maxRecDepth 100000 in
set_option maxHeartbeats 400000 in
theorem ThroughLinesI_ok (n : Int) (ms : List Int) (hms : ms.length = 16) (hb : Bytes ms) (hd : isD n ms = true) (w : World) :
    Calls Try.prog 14 #[.agg (dcells n ms)] w fun e w' => e = .returned (.tuple #[.int .i64 (thr n ms n.toNat), .int .i64 0]) ∧ Below w.heap.size w w' := by
  have hl := Lib.hid hms
  have hbb := Lib.hid hb
  obtain ⟨h1, h8⟩ := (((isD_iff n ms hms hb).1 hd).1)
  have hc := Lib.hid (fun w => isI_any n ms hms hb w)
  rw [hd] at hc
  have c0 := dcells_zero n ms
  clear hms hb hd
  go_enter Try.func14, Try.ntmps14
  go_wp2_with (first
    | (refine wpList_load_row rfl 25 _ rfl _ rfl 25 _ (0, 0) _ (Own.new _ _ _) Try.underlying25 rfl (row26 (d17 _ _ (hl.out))) ?_)
    | (go_at_call 30; ((with_reducible refine (hc.out _).mono ?_); rintro e w1 ⟨rfl, hB1⟩; have hOa : Own w1 w.heap.size (dcells n ms) 25 := (Own.new _ _ _).below hB1 (by simp); have k0 := (hOa.cell 0).trans c0)))
  have hBa : Below w.heap.size w w1 := ((Below.refl w.heap.size w).alloc (Nat.le_refl _) _).trans (hB1.mono (by simp))
  clear hB1 k0
  go_loopw [4, 11] (fun t i wr => ∃ k : Nat, k ≤ n ∧ i = .int .i64 k ∧ t = .int .i64 (thr n ms k) ∧ Own wr w.heap.size (dcells n ms) 25 ∧ Below w.heap.size w wr) (fun _ i _ => (n - intOf i).toNat)
  case atStart => exact ⟨0, by omega, rfl, rfl, hOa, hBa⟩
  case round =>
    clear hOa hBa
    obtain ⟨k, hk, rfl, rfl, hO, hB⟩ := hrel
    have k0 := hO.cell 0
    rw [c0] at k0
    have tb := thr_bd n ms k
    by_cases hlt : (k : Int) < n
    · have k1 := hO.cell (1 + k)
      rw [dcells_get _ _ _ (by rw [hl.out]; omega)] at k1
      obtain ⟨m, hm⟩ : ∃ m, ms.getD k 0 = m := ⟨_, rfl⟩
      have mb := hbb.out.get k
      rw [hm] at k1 mb
      obtain ⟨mb1, mb2⟩ := mb
      have ht := Lib.hid (show thr n ms (k + 1) = if n ≤ m then thr n ms k + 1 else thr n ms k by rw [thr, hm])
      have hlt16 : (k : Int) < 16 := by omega
      have hwr : IntKind.i64.wrap m = m := IntWalk.i64_in _ (by omega)
      have HW := Lib.hid hwr
      clear hm hwr c0
      by_cases g : n ≤ m
      · have e1 := Lib.hid (ht.out.trans (if_pos g))
        clear ht
        go_wp2
        have hwr := HW.out
        go_quiet (fail)
        clear hwr
        go_wp2
        go_roundw
        case rel => exact ⟨k + 1, by omega, by go_num, by rw [e1.out], hO.drewN _, Below.drewN hB _⟩
        case measure => simp [intOf]; omega
      · have e1 := Lib.hid (ht.out.trans (if_neg g))
        clear ht
        go_wp2
        have hwr := HW.out
        go_quiet (fail)
        clear hwr
        go_wp2
        go_roundw
        case rel => exact ⟨k + 1, by omega, by go_num, by rw [e1.out], hO.drewN _, Below.drewN hB _⟩
        case measure => simp [intOf]; omega
    · have e := Lib.hid (show n.toNat = k by omega)
      clear c0
      go_wp2
      go_ret2
      exact ⟨by rw [e.out]; rfl, hB⟩
set_option maxRecDepth 100000 in
theorem ThroughLinesI_bad (n : Int) (ms : List Int) (hms : ms.length = 16) (hb : Bytes ms) (hd : isD n ms = false) (w : World) :
    Calls Try.prog 14 #[.agg (dcells n ms)] w fun e w' => e = .returned (.tuple #[.int .i64 0, .int .i64 1]) ∧ Below w.heap.size w w' := by
  have hl := Lib.hid hms
  have hc := Lib.hid (fun w => isI_any n ms hms hb w)
  rw [hd] at hc
  clear hms hb hd
  go_enter Try.func14, Try.ntmps14
  go_wp2_with (first
    | (refine wpList_load_row rfl 25 _ rfl _ rfl 25 _ (0, 0) _ (Own.new _ _ _) Try.underlying25 rfl (row26 (d17 _ _ (hl.out))) ?_)
    | (go_at_call 30; ((with_reducible refine (hc.out _).mono ?_); rintro e w1 ⟨rfl, hB1⟩)))
  go_ret2
  have b0 : Below w.heap.size w (w.alloc (.cells (dcells n ms) 25)) := (Below.refl _ _).alloc (Nat.le_refl _) _
  exact ⟨rfl, b0.trans (hB1.mono b0.size)⟩
set_option maxRecDepth 100000 in
theorem ThroughLinesS_bad (n : Int) (ms : List Int) (hms : ms.length = 16) (hb : Bytes ms) (hd : isD n ms = false) (w : World) :
    Calls Try.prog 13 #[.agg (dcells n ms)] w fun e w' => e = .returned (.tuple #[.int .i64 0, .int .i64 1]) ∧ Below w.heap.size w w' := by
  have hl := Lib.hid hms
  have hc := Lib.hid (fun w => l01Is_dec n ms hms hb w)
  rw [hd] at hc
  clear hms hb hd
  go_enter Try.func13, Try.ntmps13
  go_wp2_with (first
    | (refine wpList_load_row rfl 25 _ rfl _ rfl 25 _ (0, 0) _ (Own.new _ _ _) Try.underlying25 rfl (row26 (d17 _ _ (hl.out))) ?_)
    | (go_at_call 26; ((with_reducible refine (hc.out _).mono ?_); rintro e w1 ⟨rfl, hB1⟩)))
  go_ret2
  have b0 : Below w.heap.size w (w.alloc (.cells (dcells n ms) 25)) := (Below.refl _ _).alloc (Nat.le_refl _) _
  exact ⟨rfl, b0.trans (hB1.mono b0.size)⟩
set_option maxRecDepth 100000 in
theorem ThroughLinesS_ok (n : Int) (ms : List Int) (hms : ms.length = 16) (hb : Bytes ms) (hd : isD n ms = true) (w : World) :
    Calls Try.prog 13 #[.agg (dcells n ms)] w fun e w' => e = .returned (.tuple #[.int .i64 (thr n ms n.toNat), .int .i64 0]) ∧ Below w.heap.size w w' := by
  have hl := Lib.hid hms
  have hn := (((isD_iff n ms hms hb).1 hd).1)
  have hc := Lib.hid (fun w => l01Is_dec n ms hms hb w)
  have hf := Lib.hid (fun w => thruS_any n ms hms hb w hn.1 hn.2)
  rw [hd] at hc
  obtain ⟨v, hv⟩ : ∃ v, thr n ms n.toNat = v := ⟨_, rfl⟩
  rw [hv] at hf ⊢
  clear hms hb hd hv
  go_enter Try.func13, Try.ntmps13
  go_wp2_with (first
    | (refine wpList_load_row rfl 25 _ rfl _ rfl 25 _ (0, 0) _ (Own.new _ _ _) Try.underlying25 rfl (row26 (d17 _ _ (hl.out))) ?_)
    | (go_at_call 26; ((with_reducible refine (hc.out _).mono ?_); rintro e w1 ⟨rfl, hB1⟩))
    | (refine wpList_load_row rfl 25 _ rfl _ rfl 25 _ (0, 0) _ ((Own.new _ _ _).below hB1 (by simp)) Try.underlying25 rfl (row26 (d17 _ _ (hl.out))) ?_)
    | (go_at_call 37; ((with_reducible refine (hf.out _).mono ?_); rintro e w2 ⟨rfl, hB2⟩)))
  go_ret2
  have b0 : Below w.heap.size w (w.alloc (.cells (dcells n ms) 25)) := (Below.refl _ _).alloc (Nat.le_refl _) _
  have b1 := b0.trans (hB1.mono b0.size)
  exact ⟨rfl, b1.trans (hB2.mono b1.size)⟩
set_option maxRecDepth 100000 in
theorem ThroughLines_walk (n : Int) (ms : List Int) (hms : ms.length = 16) (w : World) (a c : Int)
    (hS : ∀ w, Calls Try.prog 13 #[.agg (dcells n ms)] w fun e w' => e = .returned (.tuple #[.int .i64 a, .int .i64 c]) ∧ Below w.heap.size w w')
    (hI : ∀ w, Calls Try.prog 14 #[.agg (dcells n ms)] w fun e w' => e = .returned (.tuple #[.int .i64 a, .int .i64 c]) ∧ Below w.heap.size w w') :
    Calls Try.prog 4 #[.agg (dcells n ms)] w fun e w' => e = .returned (.bool true) ∧ Below w.heap.size w w' := by
  have hl := Lib.hid hms
  have hS' := Lib.hid hS
  have hI' := Lib.hid hI
  clear hms hS hI
  go_enter Try.func4, Try.ntmps4
  go_wp2_with (first
    | (refine wpList_load_row rfl 24 _ rfl _ rfl 24 _ (0, 0) _ (Own.new _ _ _) Try.underlying24 rfl (row50 (d17 _ _ (hl.out))) ?_)
    | (go_at_call 13; ((with_reducible refine (hS'.out _).mono ?_); rintro e w2 ⟨rfl, hB2⟩))
    | (go_at_call 14; ((with_reducible refine (hI'.out _).mono ?_); rintro e w4 ⟨rfl, hB4⟩))
    | (go_at_call 10; ((with_reducible refine (toD_any n ms hl.out w2).mono ?_); rintro e w3 ⟨rfl, hB3⟩))
    | (go_at_call 10; ((with_reducible refine (toD_any n ms hl.out _).mono ?_); rintro e w1 ⟨rfl, hB1⟩))
    | (refine wpList_load_row rfl 24 _ rfl _ rfl 24 _ (0, 0) _ (((Own.new _ _ _).below hB1 (by simp)).below hB2 (Nat.lt_of_lt_of_le (by simp) hB1.size)) Try.underlying24 rfl (row50 (d17 _ _ (hl.out))) ?_))
  go_ret
  have b0 : Below w.heap.size w (w.alloc (.cells (dcells n ms) 24)) := (Below.refl _ _).alloc (Nat.le_refl _) _
  have b1 := b0.trans (hB1.mono b0.size)
  have b2 := b1.trans (hB2.mono b1.size)
  have b3 := b2.trans (hB3.mono b2.size)
  exact ⟨rfl, b3.trans (hB4.mono b3.size)⟩
theorem thru_law (n : Int) (ms : List Int) (hms : ms.length = 16) (hb : Bytes ms) (w : World) :
    Calls Try.prog 4 #[.agg (dcells n ms)] w fun e w' => e = .returned (.bool true) ∧ Below w.heap.size w w' := by
  cases hd : isD n ms with
  | true => exact ThroughLines_walk n ms hms w _ 0 (ThroughLinesS_ok n ms hms hb hd) (ThroughLinesI_ok n ms hms hb hd)
  | false => exact ThroughLines_walk n ms hms w 0 1 (ThroughLinesS_bad n ms hms hb hd) (ThroughLinesI_bad n ms hms hb hd)
end Go.Proofs.Ytfbocodkelmemab
