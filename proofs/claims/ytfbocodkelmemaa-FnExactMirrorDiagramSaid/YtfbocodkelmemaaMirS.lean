/- The contract of the model's mirror. -/
import Derived.Test.YtfbocodkelmemaaDiaB
import Derived.Test.YtfbocodkelmemaaLawD
import Derived.Test.YtfbocodkelmemaaMvMath
import Derived.RegionTactic
import Derived.ChangeAlike
namespace Go.Proofs.Ytfbocodkelmemaa
open Go.RowKit
theorem dv0 (n i : Int) (_ : 1 ≤ n) (h0 : 0 ≤ i) (h : i < n) : i / n = 0 := Int.ediv_eq_zero_of_lt h0 h
theorem dv1 (n i : Int) (h1 : 1 ≤ n) (h : n ≤ i) (h2 : i < 2 * n) : i / n = 1 := by
  have e : i / n = (i - n) / n + 1 := by
    have := Int.add_ediv_of_dvd_right (a := i - n) (b := n) (c := n) (Int.dvd_refl n)
    rw [show i - n + n = i by omega, Int.ediv_self (by omega)] at this
    exact this
  rw [e, Int.ediv_eq_zero_of_lt (by omega) (by omega)]; rfl
set_option maxRecDepth 100000 in
set_option maxHeartbeats 2000000 in
theorem MirrorDiagramS_ok (n : Int) (ms : List Int) (hms : ms.length = 16) (hb : Bytes ms) (hd : isD n ms = true) (w : World) :
    Calls Try.prog 34 #[.agg (dcells n ms)] w fun e w' => e = .returned (.tuple #[.agg (dcells n (stL (fun i => if i < n then n - 1 - i else 3 * n - 1 - i) ms (2 * n).toNat)), .int .i64 0]) ∧ Below w.heap.size w w' := by
  have hl := Lib.hid hms
  have hbb := Lib.hid hb
  have hIs := (isD_iff n ms hms hb).1 hd
  have hc := Lib.hid (fun w => l01Is_dec n ms hms hb w)
  rw [hd] at hc
  have hmt := Lib.hid (fun (p : Int) (h0 : 0 ≤ p) (h2 : p < 2 * n) => mate_lt hb hIs p h0 h2)
  obtain ⟨h1, h8⟩ := hIs.1
  have c0 := Lib.hid (dcells_zero n ms)
  clear hms hb hd hIs
  go_enter Try.func34, Try.ntmps34
  go_wp2_with (first
    | (refine wpList_load_row rfl 26 _ rfl _ rfl 26 _ (0, 0) _ ((Own.new _ _ _).alloc _) Try.underlying26 rfl (row26 (d17 _ _ (hl.out))) ?_)
    | (go_at_call 68; ((with_reducible refine (hc.out _).mono ?_); rintro e w1 ⟨rfl, hB1⟩; have hO1 : Own w1 w.heap.size (dcells n ms) 26 := ((Own.new _ _ _).alloc _).below hB1 (by simp <;> omega); have hR1 : Own w1 (w.heap.size + 1) zcells 26 := (Own.at _ _ _ (by simp)).below hB1 (by simp); have hBw : Below w.heap.size w w1 := (((Below.refl w.heap.size w).alloc (Nat.le_refl _) _).alloc (by simp) _).trans (hB1.mono (by simp <;> omega)); clear hB1; have k0 := (hO1.cell 0).trans c0.out)))
  have k0a := fun o => ((hO1.alloc o).cell 0).trans c0.out
  go_region
  clear k0a
  have hz := hBw.size
  have hlt1 := hO1.lt
  have hlt2 := hR1.lt
  obtain ⟨g, hg⟩ : ∃ g, w1.heap.size = g := ⟨_, rfl⟩
  have hOa : Own (w1.alloc (.cells (dcells n zeros) 26)).drew w.heap.size (dcells n ms) 26 := Own.alloc hO1 _
  have hRa : Own (w1.alloc (.cells (dcells n zeros) 26)).drew (w.heap.size + 1) zcells 26 := Own.alloc hR1 _
  have hDa : Own (w1.alloc (.cells (dcells n zeros) 26)).drew g (dcells n zeros) 26 := Own.at _ _ _ hg
  have hBa : Below w.heap.size w (w1.alloc (.cells (dcells n zeros) 26)).drew := (hBw.alloc hBw.size _).drew
  change Exit.then _ _ _ _ (w1.alloc (.cells (dcells n zeros) 26)).drew
  generalize (w1.alloc (.cells (dcells n zeros) 26)).drew = wa at *
  rw [hg] at hlt1 hlt2 hz ⊢
  clear hO1 hR1 hBw k0 hg
  go_wp2
  go_loopw [6] (fun i wr => ∃ k : Nat, k ≤ 2 * n ∧ i = .int .i64 k ∧ Own wr w.heap.size (dcells n ms) 26 ∧ Own wr (w.heap.size + 1) zcells 26 ∧ Own wr g (dcells n (stL (fun i => if i < n then n - 1 - i else 3 * n - 1 - i) ms k)) 26 ∧ Below w.heap.size w wr) (fun i _ => (2 * n - intOf i).toNat)
  case atStart => exact ⟨0, by omega, rfl, hOa, hRa, hDa, hBa⟩
  case round =>
    clear hOa hRa hDa hBa
    obtain ⟨k, hk, rfl, hO, hR, hD, hB⟩ := hrel
    have hsl := Lib.hid (stL_len (fun i => if i < n then n - 1 - i else 3 * n - 1 - i) ms k)
    by_cases hlt : (k : Int) < 2 * n
    · have mm := hmt.out k (by omega) hlt
      obtain ⟨m, hm⟩ : ∃ m, mate ms k = m := ⟨_, rfl⟩
      rw [hm] at mm
      obtain ⟨mm0, mm2⟩ := mm
      by_cases g1 : (k : Int) < n
      · by_cases g2 : m < n
        · obtain ⟨a, ha⟩ : ∃ a : Nat, (n - 1 - k).toNat = a := ⟨_, rfl⟩
          have hst := Lib.hid (show stL (fun i => if i < n then n - 1 - i else 3 * n - 1 - i) ms (k + 1) = (stL (fun i => if i < n then n - 1 - i else 3 * n - 1 - i) ms k).set a (n - 1 - m) by
            rw [stL, hm]
            show (stL (fun i => if i < n then n - 1 - i else 3 * n - 1 - i) ms k).set (if (k : Int) < n then n - 1 - k else 3 * n - 1 - k).toNat (if m < n then n - 1 - m else 3 * n - 1 - m) = _
            rw [if_pos g1, if_pos g2, ha])
          have q1 : (k : Int).tdiv n = 0 := by rw [Int.tdiv_eq_ediv_of_nonneg (by omega)]; exact dv0 n k (by omega) (by omega) (by omega)
          have q2 : m.tdiv n = 0 := by rw [Int.tdiv_eq_ediv_of_nonneg (by omega)]; exact dv0 n m (by omega) (by omega) (by omega)
          have q3 : m / n = 0 := dv0 n m (by omega) (by omega) (by omega)
          have c1 : (dcells n ms)[1 + k]? = some (.int .u8 m) := by rw [dcells_get _ _ _ (by rw [hl.out]; omega), ← hm, mate_nat]
          have C1 := Lib.hid c1
          have Q1 := Lib.hid q1
          have Q2 := Lib.hid q2
          have Q3 := Lib.hid q3
          clear hm c1 q1 q2 q3
          go_wp2
          refine wp_region_still_lit (by kernel_rfl) (by kernel_rfl) ?_
          have hO' : Own { wr with drawn := wr.drawn + 1 } w.heap.size (dcells n ms) 26 := hO
          have hR' : Own { wr with drawn := wr.drawn + 1 } (w.heap.size + 1) zcells 26 := hR
          have hD' : Own { wr with drawn := wr.drawn + 1 } g (dcells n (stL (fun i => if i < n then n - 1 - i else 3 * n - 1 - i) ms k)) 26 := hD
          have hB' : Below w.heap.size w { wr with drawn := wr.drawn + 1 } := hB.drew
          clear hO hR hD hB
          generalize ({ wr with drawn := wr.drawn + 1 } : World) = wd at *
          have k1 := hO'.cell (1 + k)
          rw [C1.out] at k1
          have k2 := hD'.cell (1 + a)
          rw [dcells_get _ _ _ (by rw [hsl.out]; omega)] at k2
          have f2 := hD'.free (1 + a)
          have hD2 := hD'.set (1 + a) (.int .u8 (n - 1 - m))
          rw [dcells_set, ← hst.out] at hD2
          have hO2 := hO'.other (a := ⟨g, 1 + a, none⟩) (Nat.ne_of_gt hlt1) (.int .u8 (n - 1 - m))
          have hR2 := hR'.other (a := ⟨g, 1 + a, none⟩) (Nat.ne_of_gt hlt2) (.int .u8 (n - 1 - m))
          have hB2 := hB'.setCell (p := ⟨g, 1 + a, none⟩) hz (.int .u8 (n - 1 - m))
          have K1 := Lib.hid hD2
          have K2 := Lib.hid hO2
          have K3 := Lib.hid hR2
          have K4 := Lib.hid hB2
          clear hD2 hO2 hR2 hB2 hD' hO' hR' hB'
          have hk16 : (k : Int) < 16 := by omega
          have n0 : n ≠ 0 := by omega
          have e16 : (a : Int) < 16 := by omega
          have x16 : n - 1 - m < 16 := by omega
          have x0 : 0 ≤ n - 1 - m := by omega
          have w1 : IntKind.i64.wrap n = n := IntWalk.i64_in _ (by omega)
          have w2 : IntKind.i64.wrap (n - 1) = n - 1 := IntWalk.i64_in _ (by omega)
          have w3 : IntKind.i64.wrap (n - 1 - k) = a := by rw [IntWalk.i64_in _ (by omega)]; omega
          have w4 : IntKind.i64.wrap (2 * n) = 2 * n := IntWalk.i64_in _ (by omega)
          have w5 : IntKind.i64.wrap (2 * n + n) = 2 * n + n := IntWalk.i64_in _ (by omega)
          have w6 : IntKind.i64.wrap (2 * n + n - 1) = 2 * n + n - 1 := IntWalk.i64_in _ (by omega)
          have w7 : IntKind.i64.wrap (2 * n + n - 1 - k) = 2 * n + n - 1 - k := IntWalk.i64_in _ (by omega)
          have w8 : IntKind.i64.wrap m = m := IntWalk.i64_in _ (by omega)
          clear ha
          have z0 : IntKind.i64.wrap 0 = 0 := rfl
          have z1 : IntKind.i64.wrap 1 = 1 := rfl
          have z2 : IntKind.i64.wrap 2 = 2 := rfl
          have q1 := Q1.out
          still_step
          still_step
          still_step
          still_step
          still_step
          still_step
          still_step
          still_step
          still_step
          still_step
          still_step
          still_step
          still_step
          still_step
          still_step
          still_step
          still_step
          still_step
          refine wpStill_nil ?_
          clear w1 w2 w3 w4 w5 w6 w7 w8 q1 z0 z1 z2
          have q2 := Q2.out
          have q3 := Q3.out
          go_wp2
          clear q2 q3
          go_roundw
          case rel => exact ⟨k + 1, by omega, by go_num, K2.out, K3.out, K1.out, K4.out⟩
          case measure => simp [intOf]; omega
        · obtain ⟨a, ha⟩ : ∃ a : Nat, (n - 1 - k).toNat = a := ⟨_, rfl⟩
          have hst := Lib.hid (show stL (fun i => if i < n then n - 1 - i else 3 * n - 1 - i) ms (k + 1) = (stL (fun i => if i < n then n - 1 - i else 3 * n - 1 - i) ms k).set a (2 * n + n - 1 - m) by
            rw [stL, hm]
            show (stL (fun i => if i < n then n - 1 - i else 3 * n - 1 - i) ms k).set (if (k : Int) < n then n - 1 - k else 3 * n - 1 - k).toNat (if m < n then n - 1 - m else 3 * n - 1 - m) = _
            rw [if_pos g1, if_neg g2, show 3 * n - 1 - m = 2 * n + n - 1 - m by omega, ha])
          have q1 : (k : Int).tdiv n = 0 := by rw [Int.tdiv_eq_ediv_of_nonneg (by omega)]; exact dv0 n k (by omega) (by omega) (by omega)
          have q2 : m.tdiv n = 1 := by rw [Int.tdiv_eq_ediv_of_nonneg (by omega)]; exact dv1 n m (by omega) (by omega) (by omega)
          have q3 : m / n = 1 := dv1 n m (by omega) (by omega) (by omega)
          have c1 : (dcells n ms)[1 + k]? = some (.int .u8 m) := by rw [dcells_get _ _ _ (by rw [hl.out]; omega), ← hm, mate_nat]
          have C1 := Lib.hid c1
          have Q1 := Lib.hid q1
          have Q2 := Lib.hid q2
          have Q3 := Lib.hid q3
          clear hm c1 q1 q2 q3
          go_wp2
          refine wp_region_still_lit (by kernel_rfl) (by kernel_rfl) ?_
          have hO' : Own { wr with drawn := wr.drawn + 1 } w.heap.size (dcells n ms) 26 := hO
          have hR' : Own { wr with drawn := wr.drawn + 1 } (w.heap.size + 1) zcells 26 := hR
          have hD' : Own { wr with drawn := wr.drawn + 1 } g (dcells n (stL (fun i => if i < n then n - 1 - i else 3 * n - 1 - i) ms k)) 26 := hD
          have hB' : Below w.heap.size w { wr with drawn := wr.drawn + 1 } := hB.drew
          clear hO hR hD hB
          generalize ({ wr with drawn := wr.drawn + 1 } : World) = wd at *
          have k1 := hO'.cell (1 + k)
          rw [C1.out] at k1
          have k2 := hD'.cell (1 + a)
          rw [dcells_get _ _ _ (by rw [hsl.out]; omega)] at k2
          have f2 := hD'.free (1 + a)
          have hD2 := hD'.set (1 + a) (.int .u8 (2 * n + n - 1 - m))
          rw [dcells_set, ← hst.out] at hD2
          have hO2 := hO'.other (a := ⟨g, 1 + a, none⟩) (Nat.ne_of_gt hlt1) (.int .u8 (2 * n + n - 1 - m))
          have hR2 := hR'.other (a := ⟨g, 1 + a, none⟩) (Nat.ne_of_gt hlt2) (.int .u8 (2 * n + n - 1 - m))
          have hB2 := hB'.setCell (p := ⟨g, 1 + a, none⟩) hz (.int .u8 (2 * n + n - 1 - m))
          have K1 := Lib.hid hD2
          have K2 := Lib.hid hO2
          have K3 := Lib.hid hR2
          have K4 := Lib.hid hB2
          clear hD2 hO2 hR2 hB2 hD' hO' hR' hB'
          have hk16 : (k : Int) < 16 := by omega
          have n0 : n ≠ 0 := by omega
          have e16 : (a : Int) < 16 := by omega
          have x16 : 2 * n + n - 1 - m < 16 := by omega
          have x0 : 0 ≤ 2 * n + n - 1 - m := by omega
          have w1 : IntKind.i64.wrap n = n := IntWalk.i64_in _ (by omega)
          have w2 : IntKind.i64.wrap (n - 1) = n - 1 := IntWalk.i64_in _ (by omega)
          have w3 : IntKind.i64.wrap (n - 1 - k) = a := by rw [IntWalk.i64_in _ (by omega)]; omega
          have w4 : IntKind.i64.wrap (2 * n) = 2 * n := IntWalk.i64_in _ (by omega)
          have w5 : IntKind.i64.wrap (2 * n + n) = 2 * n + n := IntWalk.i64_in _ (by omega)
          have w6 : IntKind.i64.wrap (2 * n + n - 1) = 2 * n + n - 1 := IntWalk.i64_in _ (by omega)
          have w7 : IntKind.i64.wrap (2 * n + n - 1 - k) = 2 * n + n - 1 - k := IntWalk.i64_in _ (by omega)
          have w8 : IntKind.i64.wrap m = m := IntWalk.i64_in _ (by omega)
          clear ha
          have z0 : IntKind.i64.wrap 0 = 0 := rfl
          have z1 : IntKind.i64.wrap 1 = 1 := rfl
          have z2 : IntKind.i64.wrap 2 = 2 := rfl
          have q1 := Q1.out
          still_step
          still_step
          still_step
          still_step
          still_step
          still_step
          still_step
          still_step
          still_step
          still_step
          still_step
          still_step
          still_step
          still_step
          still_step
          still_step
          still_step
          still_step
          refine wpStill_nil ?_
          clear w1 w2 w3 w4 w5 w6 w7 w8 q1 z0 z1 z2
          have q2 := Q2.out
          have q3 := Q3.out
          go_wp2
          clear q2 q3
          go_roundw
          case rel => exact ⟨k + 1, by omega, by go_num, K2.out, K3.out, K1.out, K4.out⟩
          case measure => simp [intOf]; omega
      · by_cases g2 : m < n
        · obtain ⟨a, ha⟩ : ∃ a : Nat, (2 * n + n - 1 - k).toNat = a := ⟨_, rfl⟩
          have hst := Lib.hid (show stL (fun i => if i < n then n - 1 - i else 3 * n - 1 - i) ms (k + 1) = (stL (fun i => if i < n then n - 1 - i else 3 * n - 1 - i) ms k).set a (n - 1 - m) by
            rw [stL, hm]
            show (stL (fun i => if i < n then n - 1 - i else 3 * n - 1 - i) ms k).set (if (k : Int) < n then n - 1 - k else 3 * n - 1 - k).toNat (if m < n then n - 1 - m else 3 * n - 1 - m) = _
            rw [if_neg g1, if_pos g2, show 3 * n - 1 - (k : Int) = 2 * n + n - 1 - k by omega, ha])
          have q1 : (k : Int).tdiv n = 1 := by rw [Int.tdiv_eq_ediv_of_nonneg (by omega)]; exact dv1 n k (by omega) (by omega) (by omega)
          have q2 : m.tdiv n = 0 := by rw [Int.tdiv_eq_ediv_of_nonneg (by omega)]; exact dv0 n m (by omega) (by omega) (by omega)
          have q3 : m / n = 0 := dv0 n m (by omega) (by omega) (by omega)
          have c1 : (dcells n ms)[1 + k]? = some (.int .u8 m) := by rw [dcells_get _ _ _ (by rw [hl.out]; omega), ← hm, mate_nat]
          have C1 := Lib.hid c1
          have Q1 := Lib.hid q1
          have Q2 := Lib.hid q2
          have Q3 := Lib.hid q3
          clear hm c1 q1 q2 q3
          go_wp2
          refine wp_region_still_lit (by kernel_rfl) (by kernel_rfl) ?_
          have hO' : Own { wr with drawn := wr.drawn + 1 } w.heap.size (dcells n ms) 26 := hO
          have hR' : Own { wr with drawn := wr.drawn + 1 } (w.heap.size + 1) zcells 26 := hR
          have hD' : Own { wr with drawn := wr.drawn + 1 } g (dcells n (stL (fun i => if i < n then n - 1 - i else 3 * n - 1 - i) ms k)) 26 := hD
          have hB' : Below w.heap.size w { wr with drawn := wr.drawn + 1 } := hB.drew
          clear hO hR hD hB
          generalize ({ wr with drawn := wr.drawn + 1 } : World) = wd at *
          have k1 := hO'.cell (1 + k)
          rw [C1.out] at k1
          have k2 := hD'.cell (1 + a)
          rw [dcells_get _ _ _ (by rw [hsl.out]; omega)] at k2
          have f2 := hD'.free (1 + a)
          have hD2 := hD'.set (1 + a) (.int .u8 (n - 1 - m))
          rw [dcells_set, ← hst.out] at hD2
          have hO2 := hO'.other (a := ⟨g, 1 + a, none⟩) (Nat.ne_of_gt hlt1) (.int .u8 (n - 1 - m))
          have hR2 := hR'.other (a := ⟨g, 1 + a, none⟩) (Nat.ne_of_gt hlt2) (.int .u8 (n - 1 - m))
          have hB2 := hB'.setCell (p := ⟨g, 1 + a, none⟩) hz (.int .u8 (n - 1 - m))
          have K1 := Lib.hid hD2
          have K2 := Lib.hid hO2
          have K3 := Lib.hid hR2
          have K4 := Lib.hid hB2
          clear hD2 hO2 hR2 hB2 hD' hO' hR' hB'
          have hk16 : (k : Int) < 16 := by omega
          have n0 : n ≠ 0 := by omega
          have e16 : (a : Int) < 16 := by omega
          have x16 : n - 1 - m < 16 := by omega
          have x0 : 0 ≤ n - 1 - m := by omega
          have w1 : IntKind.i64.wrap n = n := IntWalk.i64_in _ (by omega)
          have w2 : IntKind.i64.wrap (n - 1) = n - 1 := IntWalk.i64_in _ (by omega)
          have w3 : IntKind.i64.wrap (n - 1 - k) = n - 1 - k := IntWalk.i64_in _ (by omega)
          have w4 : IntKind.i64.wrap (2 * n) = 2 * n := IntWalk.i64_in _ (by omega)
          have w5 : IntKind.i64.wrap (2 * n + n) = 2 * n + n := IntWalk.i64_in _ (by omega)
          have w6 : IntKind.i64.wrap (2 * n + n - 1) = 2 * n + n - 1 := IntWalk.i64_in _ (by omega)
          have w7 : IntKind.i64.wrap (2 * n + n - 1 - k) = a := by rw [IntWalk.i64_in _ (by omega)]; omega
          have w8 : IntKind.i64.wrap m = m := IntWalk.i64_in _ (by omega)
          clear ha
          have z0 : IntKind.i64.wrap 0 = 0 := rfl
          have z1 : IntKind.i64.wrap 1 = 1 := rfl
          have z2 : IntKind.i64.wrap 2 = 2 := rfl
          have q1 := Q1.out
          still_step
          still_step
          still_step
          still_step
          still_step
          still_step
          still_step
          still_step
          still_step
          still_step
          still_step
          still_step
          still_step
          still_step
          still_step
          still_step
          still_step
          still_step
          refine wpStill_nil ?_
          clear w1 w2 w3 w4 w5 w6 w7 w8 q1 z0 z1 z2
          have q2 := Q2.out
          have q3 := Q3.out
          go_wp2
          clear q2 q3
          go_roundw
          case rel => exact ⟨k + 1, by omega, by go_num, K2.out, K3.out, K1.out, K4.out⟩
          case measure => simp [intOf]; omega
        · obtain ⟨a, ha⟩ : ∃ a : Nat, (2 * n + n - 1 - k).toNat = a := ⟨_, rfl⟩
          have hst := Lib.hid (show stL (fun i => if i < n then n - 1 - i else 3 * n - 1 - i) ms (k + 1) = (stL (fun i => if i < n then n - 1 - i else 3 * n - 1 - i) ms k).set a (2 * n + n - 1 - m) by
            rw [stL, hm]
            show (stL (fun i => if i < n then n - 1 - i else 3 * n - 1 - i) ms k).set (if (k : Int) < n then n - 1 - k else 3 * n - 1 - k).toNat (if m < n then n - 1 - m else 3 * n - 1 - m) = _
            rw [if_neg g1, if_neg g2, show 3 * n - 1 - (k : Int) = 2 * n + n - 1 - k by omega, show 3 * n - 1 - m = 2 * n + n - 1 - m by omega, ha])
          have q1 : (k : Int).tdiv n = 1 := by rw [Int.tdiv_eq_ediv_of_nonneg (by omega)]; exact dv1 n k (by omega) (by omega) (by omega)
          have q2 : m.tdiv n = 1 := by rw [Int.tdiv_eq_ediv_of_nonneg (by omega)]; exact dv1 n m (by omega) (by omega) (by omega)
          have q3 : m / n = 1 := dv1 n m (by omega) (by omega) (by omega)
          have c1 : (dcells n ms)[1 + k]? = some (.int .u8 m) := by rw [dcells_get _ _ _ (by rw [hl.out]; omega), ← hm, mate_nat]
          have C1 := Lib.hid c1
          have Q1 := Lib.hid q1
          have Q2 := Lib.hid q2
          have Q3 := Lib.hid q3
          clear hm c1 q1 q2 q3
          go_wp2
          refine wp_region_still_lit (by kernel_rfl) (by kernel_rfl) ?_
          have hO' : Own { wr with drawn := wr.drawn + 1 } w.heap.size (dcells n ms) 26 := hO
          have hR' : Own { wr with drawn := wr.drawn + 1 } (w.heap.size + 1) zcells 26 := hR
          have hD' : Own { wr with drawn := wr.drawn + 1 } g (dcells n (stL (fun i => if i < n then n - 1 - i else 3 * n - 1 - i) ms k)) 26 := hD
          have hB' : Below w.heap.size w { wr with drawn := wr.drawn + 1 } := hB.drew
          clear hO hR hD hB
          generalize ({ wr with drawn := wr.drawn + 1 } : World) = wd at *
          have k1 := hO'.cell (1 + k)
          rw [C1.out] at k1
          have k2 := hD'.cell (1 + a)
          rw [dcells_get _ _ _ (by rw [hsl.out]; omega)] at k2
          have f2 := hD'.free (1 + a)
          have hD2 := hD'.set (1 + a) (.int .u8 (2 * n + n - 1 - m))
          rw [dcells_set, ← hst.out] at hD2
          have hO2 := hO'.other (a := ⟨g, 1 + a, none⟩) (Nat.ne_of_gt hlt1) (.int .u8 (2 * n + n - 1 - m))
          have hR2 := hR'.other (a := ⟨g, 1 + a, none⟩) (Nat.ne_of_gt hlt2) (.int .u8 (2 * n + n - 1 - m))
          have hB2 := hB'.setCell (p := ⟨g, 1 + a, none⟩) hz (.int .u8 (2 * n + n - 1 - m))
          have K1 := Lib.hid hD2
          have K2 := Lib.hid hO2
          have K3 := Lib.hid hR2
          have K4 := Lib.hid hB2
          clear hD2 hO2 hR2 hB2 hD' hO' hR' hB'
          have hk16 : (k : Int) < 16 := by omega
          have n0 : n ≠ 0 := by omega
          have e16 : (a : Int) < 16 := by omega
          have x16 : 2 * n + n - 1 - m < 16 := by omega
          have x0 : 0 ≤ 2 * n + n - 1 - m := by omega
          have w1 : IntKind.i64.wrap n = n := IntWalk.i64_in _ (by omega)
          have w2 : IntKind.i64.wrap (n - 1) = n - 1 := IntWalk.i64_in _ (by omega)
          have w3 : IntKind.i64.wrap (n - 1 - k) = n - 1 - k := IntWalk.i64_in _ (by omega)
          have w4 : IntKind.i64.wrap (2 * n) = 2 * n := IntWalk.i64_in _ (by omega)
          have w5 : IntKind.i64.wrap (2 * n + n) = 2 * n + n := IntWalk.i64_in _ (by omega)
          have w6 : IntKind.i64.wrap (2 * n + n - 1) = 2 * n + n - 1 := IntWalk.i64_in _ (by omega)
          have w7 : IntKind.i64.wrap (2 * n + n - 1 - k) = a := by rw [IntWalk.i64_in _ (by omega)]; omega
          have w8 : IntKind.i64.wrap m = m := IntWalk.i64_in _ (by omega)
          clear ha
          have z0 : IntKind.i64.wrap 0 = 0 := rfl
          have z1 : IntKind.i64.wrap 1 = 1 := rfl
          have z2 : IntKind.i64.wrap 2 = 2 := rfl
          have q1 := Q1.out
          still_step
          still_step
          still_step
          still_step
          still_step
          still_step
          still_step
          still_step
          still_step
          still_step
          still_step
          still_step
          still_step
          still_step
          still_step
          still_step
          still_step
          still_step
          refine wpStill_nil ?_
          clear w1 w2 w3 w4 w5 w6 w7 w8 q1 z0 z1 z2
          have q2 := Q2.out
          have q3 := Q3.out
          go_wp2
          clear q2 q3
          go_roundw
          case rel => exact ⟨k + 1, by omega, by go_num, K2.out, K3.out, K1.out, K4.out⟩
          case measure => simp [intOf]; omega
    · have e := Lib.hid (show (2 * n).toNat = k by omega)
      go_wp2_with (first
        | (refine wpList_load_row rfl 26 _ rfl _ rfl 26 _ (0, 0) _ (hD) Try.underlying26 rfl (row26 (d17 _ _ (hsl.out))) ?_)
        | (refine wpList_store_own rfl 26 _ _ rfl _ _ rfl rfl 26 _ (hR) (row26 (d17 _ _ (hsl.out))) (z_eq (d17 _ _ hsl.out)) (dcells_one _ _) ?_; intro w4 hO4 hN4))
      refine bodyPost_ret (v := .tuple #[.agg (dcells n (stL (fun i => if i < n then n - 1 - i else 3 * n - 1 - i) ms k)), .int .i64 0]) (results_row_tmp rfl _ _ _ _ _ (0, 0) _ rfl (hO4) Try.underlying26 rfl (row26 (d17 _ _ (hsl.out))) _ rfl) rfl (⟨by rw [e.out], hB.trans (hN4.below.mono (by omega))⟩)
end Go.Proofs.Ytfbocodkelmemaa
