/- Contracts of ClosureLoops, the program's and the model's, and the law. -/
import Derived.Test.YtbibmncepjmgcaaKq
import Derived.Test.YtbibmncepjmgcaaKb
import Derived.Test.YtbibmncepjmgcaaKa
import Derived.Deep.LoopGhost
namespace Go.Proofs.Ytbibmncepjmgcaa
open Go.RowKit
def falses : List Bool := List.replicate 16 false
/-- Along a loop of the closure, from a point on: what has been met. -/
def clW (n : Int) (ms : List Int) : Nat → Int → List Bool → List Bool
  | 0, _, mb => mb
  | f + 1, p, mb => if mb.getD p.toNat true then mb else clW n ms f ((mate ms p + n) % (2 * n)) ((mb.set p.toNat true).set (mate ms p).toNat true)
/-- What has been met, and how many loops, behind k points. -/
def cloL (n : Int) (ms : List Int) : Nat → List Bool × Int
  | 0 => (falses, 0)
  | k + 1 => if (cloL n ms k).1.getD k true then cloL n ms k else (clW n ms 16 k (cloL n ms k).1, (cloL n ms k).2 + 1)
theorem clW_len (n : Int) (ms : List Int) (f : Nat) (p : Int) (mb : List Bool) : (clW n ms f p mb).length = mb.length := by
  induction f generalizing p mb with
  | zero => rfl
  | succ f ih => unfold clW; split <;> simp [ih]
theorem cloL_len (n : Int) (ms : List Int) (k : Nat) : (cloL n ms k).1.length = 16 := by
  induction k with
  | zero => rfl
  | succ k ih => unfold cloL; split <;> simp [clW_len, ih]
theorem cloL_bd (n : Int) (ms : List Int) (k : Nat) : 0 ≤ (cloL n ms k).2 ∧ (cloL n ms k).2 ≤ k := by
  induction k with
  | zero => simp [cloL]
  | succ k ih => unfold cloL; split <;> simp <;> omega
theorem clW_met (n : Int) (ms : List Int) (f : Nat) (p : Int) (mb : List Bool) (h : mb.getD p.toNat true = true) : clW n ms f p mb = mb := by
  cases f with
  | zero => rfl
  | succ f => unfold clW; rw [if_pos h]
theorem clW_step (n : Int) (ms : List Int) (f : Nat) (p : Int) (mb : List Bool) (h : mb.getD p.toNat true = false) : clW n ms (f + 1) p mb = clW n ms f ((mate ms p + n) % (2 * n)) ((mb.set p.toNat true).set (mate ms p).toNat true) := by
  rw [clW, if_neg (by rw [h]; simp)]
theorem cnt_le (mb : List Bool) (i : Nat) : (mb.set i true).count false ≤ mb.count false := by
  induction mb generalizing i with
  | nil => simp
  | cons b mb ih =>
    cases i with
    | zero => cases b <;> simp
    | succ i => have := ih i; cases b <;> simp_all
theorem cnt_lt (mb : List Bool) (i : Nat) (h : mb.getD i true = false) : (mb.set i true).count false + 1 = mb.count false := by
  induction mb generalizing i with
  | nil => simp at h
  | cons b mb ih =>
    cases i with
    | zero => simp at h; subst h; simp
    | succ i => have := ih i (by simpa using h); cases b <;> simp_all
set_option maxRecDepth 100000 in
set_option maxHeartbeats 1000000 in
theorem cloI_any (n : Int) (ms : List Int) (hms : ms.length = 16) (hb : Bytes ms) (hd : IsS n ms) (w : World) :
    Calls Try.prog 98 #[.agg (dcells n ms)] w fun e w' => e = .returned (.int .i64 (cloL n ms (2 * n).toNat).2) ∧ Below w.heap.size w w' := by
  have hl := Lib.hid hms
  have hbb := Lib.hid hb
  have hN := Net.of hb hd
  have hmt := Lib.hid (show ∀ p : Int, 0 ≤ p → p < 2 * n → 0 ≤ mate ms p ∧ mate ms p < 2 * n from fun p h0 h2 => by
    have b := pl_lt n p h0 h2
    have m := hN.mt (pl n p) b.1 b.2
    rw [pl_pl n p h0 h2] at m
    have q := hN.lt (pl n p) b.1 b.2
    rw [m]; exact pl_lt n _ q.1 q.2.1)
  obtain ⟨h1, h8⟩ := hd.1
  have c0 := dcells_zero n ms
  clear hms hb hd hN
  go_enter Try.func98, Try.ntmps98
  go_wp2
  have hOa : Own ((w.alloc (.cells (dcells n ms) 53)).alloc (.cells (bcells falses) 129)) w.heap.size (dcells n ms) 53 := Own.alloc (Own.new _ _ _) _
  have hMa : Own ((w.alloc (.cells (dcells n ms) 53)).alloc (.cells (bcells falses) 129)) (w.heap.size + 1) (bcells falses) 129 := Own.at _ _ _ (by simp)
  have hBa : Below w.heap.size w ((w.alloc (.cells (dcells n ms) 53)).alloc (.cells (bcells falses) 129)) := ((Below.refl _ _).alloc (Nat.le_refl _) _).alloc (by simp) _
  clear c0
  go_loopw [5, 13] (fun t i wr => ∃ k : Nat, k ≤ 2 * n ∧ i = .int .i64 k ∧ t = .int .i64 (cloL n ms k).2 ∧ Own wr w.heap.size (dcells n ms) 53 ∧ Own wr (w.heap.size + 1) (bcells (cloL n ms k).1) 129 ∧ Below w.heap.size w wr) (fun _ i _ => (2 * n - intOf i).toNat)
  case atStart => exact ⟨0, by omega, rfl, rfl, hOa, hMa, hBa⟩
  case round =>
    clear hOa hMa hBa
    obtain ⟨k, hk, rfl, rfl, hO, hM, hB⟩ := hrel
    have hkl := cloL_len n ms k
    have hkb := cloL_bd n ms k
    by_cases hlt : (k : Int) < 2 * n
    · have k1 := hM.cell k
      rw [bcells_get _ _ (by rw [hkl]; omega)] at k1
      obtain ⟨b, hbq⟩ : ∃ b, (cloL n ms k).1.getD k true = b := ⟨_, rfl⟩
      rw [hbq] at k1
      have hlt16 : (k : Int) < 16 := by omega
      cases b with
      | true =>
        have e1 := Lib.hid (show cloL n ms (k + 1) = cloL n ms k by rw [cloL, if_pos hbq])
        clear hbq
        go_wp2
        go_roundw
        case rel => exact ⟨k + 1, by omega, by go_num, by rw [e1.out], hO, by rw [e1.out]; exact hM, hB⟩
        case measure => simp [intOf]; omega
      | false =>
        have e1 := Lib.hid (show cloL n ms (k + 1) = (clW n ms 16 k (cloL n ms k).1, (cloL n ms k).2 + 1) by rw [cloL, if_neg (by rw [hbq]; simp)])
        obtain ⟨mb0, hmb0⟩ : ∃ mb0, (cloL n ms k).1 = mb0 := ⟨_, rfl⟩
        obtain ⟨c, hc⟩ : ∃ c, (cloL n ms k).2 = c := ⟨_, rfl⟩
        rw [hmb0] at hM hkl e1 hbq
        rw [hc] at hkb e1 ⊢
        clear hmb0 hc hbq
        go_wp2
        obtain ⟨wo, rfl⟩ : ∃ wo : World, wo = wr := ⟨_, rfl⟩
        have h16 : mb0.count false ≤ 16 := by rw [← hkl]; exact List.count_le_length
        go_loopg [7] 16 (fun f p wx => ∃ (q : Int) (mb : List Bool), 0 ≤ q ∧ q < 2 * n ∧ p = .int .i64 q ∧ Hid (mb.length = 16) ∧ mb.count false ≤ f ∧ Hid (clW n ms f q mb = clW n ms 16 k mb0) ∧ Own wx w.heap.size (dcells n ms) 53 ∧ Own wx (w.heap.size + 1) (bcells mb) 129 ∧ Below w.heap.size w wx)
        case atStart => exact ⟨k, mb0, by omega, hlt, rfl, Lib.hid hkl, h16, Lib.hid rfl, hO, hM, hB⟩
        case round =>
          clear hO hM hB k1 hkl h16
          obtain ⟨q, mb, hq0, hq2, rfl, hml, hcnt, hW, hO, hM, hB⟩ := hrel
          have j1 := hM.cell q.toNat
          rw [bcells_get _ _ (by rw [hml.out]; omega)] at j1
          obtain ⟨b, hbq⟩ : ∃ b, mb.getD q.toNat true = b := ⟨_, rfl⟩
          rw [hbq] at j1
          have q16 : q < 16 := by omega
          cases b with
          | true =>
            have e2 := Lib.hid (show clW n ms 16 k mb0 = mb by rw [← hW.out, clW_met _ _ _ _ _ hbq])
            have e3 := Lib.hid (show cloL n ms (k + 1) = (mb, c + 1) by rw [e1.out, e2.out])
            clear hbq hW e2 e1
            go_wp2
            go_roundw
            case rel => exact ⟨k + 1, by omega, by go_num, by rw [e3.out], hO, by rw [e3.out]; exact hM, hB⟩
            case measure => simp [intOf]; omega
          | false =>
            obtain ⟨f', hf⟩ : ∃ f', gk = f' + 1 := ⟨gk - 1, by have := cnt_lt mb q.toNat hbq; omega⟩
            subst hf
            have hst := clW_step n ms f' q mb hbq
            obtain ⟨m, hm⟩ : ∃ m, mate ms q = m := ⟨_, rfl⟩
            have hmb := hmt.out q hq0 hq2
            rw [hm] at hst hmb
            obtain ⟨m0, m2⟩ := hmb
            have m16 : m < 16 := by omega
            have c1 : wr.cell? ⟨w.heap.size, 1 + q.toNat, none⟩ = some (.int .u8 m) := by rw [hO.cell, dcells_get _ _ _ (by rw [hl.out]; omega)]; unfold mate at hm; rw [hm]
            have c3 : (wr.setCell ⟨w.heap.size + 1, q.toNat, none⟩ (.bool true)).cell? ⟨w.heap.size + 1, m.toNat, none⟩ = some (.bool ((mb.set q.toNat true).getD m.toNat true)) := by
              rw [(hM.set _ _).cell, bcells_set, bcells_get _ _ (by rw [List.length_set, hml.out]; omega)]
            have f1 := hM.free q.toNat
            have f2 := hM.free m.toNat
            have hM2 := (hM.set q.toNat (.bool true)).set m.toNat (.bool true)
            rw [bcells_set, bcells_set] at hM2
            have hO2 := (hO.other (a := ⟨w.heap.size + 1, q.toNat, none⟩) (by simp) (.bool true)).other (a := ⟨w.heap.size + 1, m.toNat, none⟩) (by simp) (.bool true)
            have hB2 := (hB.setCell (p := ⟨w.heap.size + 1, q.toNat, none⟩) (by simp) (.bool true)).setCell (p := ⟨w.heap.size + 1, m.toNat, none⟩) (by simp) (.bool true)
            have hcnt2 : ((mb.set q.toNat true).set m.toNat true).count false ≤ f' := by
              have x1 := cnt_lt mb q.toNat hbq
              have x2 := cnt_le (mb.set q.toNat true) m.toNat
              omega
            have hW2 := Lib.hid (hst.symm.trans hW.out)
            have hL2 := Lib.hid (show ((mb.set q.toNat true).set m.toNat true).length = 16 by rw [List.length_set, List.length_set]; exact hml.out)
            have r0 : 0 ≤ (m + n) % (2 * n) := Int.emod_nonneg _ (by omega)
            have r2 : (m + n) % (2 * n) < 2 * n := Int.emod_lt_of_pos _ (by omega)
            have K1 := Lib.hid hM2
            have K2 := Lib.hid hO2
            have K3 := Lib.hid hB2
            have K4 := Lib.hid r0
            have K5 := Lib.hid r2
            have K6 := Lib.hid hcnt2
            clear hM2 hO2 hB2 r0 r2 hcnt2 hst hm hW hcnt hbq
            go_wp2
            go_roundg f'
            case measure => omega
            case rel => exact ⟨_, _, K4.out, K5.out, rfl, hL2, K6.out, hW2, K2.out, K1.out, K3.out⟩
    · have e := Lib.hid (show (2 * n).toNat = k by omega)
      go_wp2
      go_ret
      exact ⟨by rw [e.out]; rfl, hB⟩
theorem built100 : Try.prog.built 129 [] = some (bcells falses) := by kernel_rfl
theorem row100 : (Try.prog.info? 129).map (·.size) = some (bcells falses).size := by kernel_rfl
set_option maxRecDepth 100000 in
set_option maxHeartbeats 1000000 in
theorem cloS_any (n : Int) (ms : List Int) (hms : ms.length = 16) (hb : Bytes ms) (hd : IsS n ms) (w : World) :
    Calls Try.prog 95 #[.agg (dcells n ms)] w fun e w' => e = .returned (.int .i64 (cloL n ms (2 * n).toNat).2) ∧ Below w.heap.size w w' := by
  have hl := Lib.hid hms
  have hbb := Lib.hid hb
  have hN := Net.of hb hd
  have hmt := Lib.hid (show ∀ p : Int, 0 ≤ p → p < 2 * n → 0 ≤ mate ms p ∧ mate ms p < 2 * n from fun p h0 h2 => by
    have b := pl_lt n p h0 h2
    have m := hN.mt (pl n p) b.1 b.2
    rw [pl_pl n p h0 h2] at m
    have q := hN.lt (pl n p) b.1 b.2
    rw [m]; exact pl_lt n _ q.1 q.2.1)
  obtain ⟨h1, h8⟩ := hd.1
  have c0 := dcells_zero n ms
  clear hms hb hd hN
  go_enter Try.func95, Try.ntmps95
  go_wp2_with (first
    | (refine wpList_build_of rfl 129 #[] rfl (bcells falses) ?_ ?_; (exact built100))
    | (refine wpList_store_own rfl 129 (.tmp 4) (.tmp 10) rfl _ (bcells falses) rfl rfl 129 _ (Own.at _ _ _ (by first | rfl | simp)) row100 rfl (by simp [bcells, Value.oneCell']) ?_; intro wa hMa hN1))
  have hOa : Own wa w.heap.size (dcells n ms) 53 := (Own.alloc (Own.new _ _ _) _).only hN1 (by omega)
  have hBa : Below w.heap.size w wa := (((Below.refl _ _).alloc (Nat.le_refl _) _).alloc (by simp) _).trans (hN1.below.mono (by omega))
  clear c0 hN1
  go_loopw [5, 6] (fun t i wr => ∃ k : Nat, k ≤ 2 * n ∧ i = .int .i64 k ∧ t = .int .i64 (cloL n ms k).2 ∧ Own wr w.heap.size (dcells n ms) 53 ∧ Own wr (w.heap.size + 1) (bcells (cloL n ms k).1) 129 ∧ Below w.heap.size w wr) (fun _ i _ => (2 * n - intOf i).toNat)
  case atStart => exact ⟨0, by omega, rfl, rfl, hOa, hMa, hBa⟩
  case round =>
    clear hOa hMa hBa
    obtain ⟨k, hk, rfl, rfl, hO, hM, hB⟩ := hrel
    have hkl := cloL_len n ms k
    have hkb := cloL_bd n ms k
    by_cases hlt : (k : Int) < 2 * n
    · have k1 := hM.cell k
      rw [bcells_get _ _ (by rw [hkl]; omega)] at k1
      obtain ⟨b, hbq⟩ : ∃ b, (cloL n ms k).1.getD k true = b := ⟨_, rfl⟩
      rw [hbq] at k1
      have hlt16 : (k : Int) < 16 := by omega
      cases b with
      | true =>
        have e1 := Lib.hid (show cloL n ms (k + 1) = cloL n ms k by rw [cloL, if_pos hbq])
        clear hbq
        go_wp2
        go_roundw
        case rel => exact ⟨k + 1, by omega, by go_num, by rw [e1.out], hO, by rw [e1.out]; exact hM, hB⟩
        case measure => simp [intOf]; omega
      | false =>
        have e1 := Lib.hid (show cloL n ms (k + 1) = (clW n ms 16 k (cloL n ms k).1, (cloL n ms k).2 + 1) by rw [cloL, if_neg (by rw [hbq]; simp)])
        obtain ⟨mb0, hmb0⟩ : ∃ mb0, (cloL n ms k).1 = mb0 := ⟨_, rfl⟩
        obtain ⟨c, hc⟩ : ∃ c, (cloL n ms k).2 = c := ⟨_, rfl⟩
        rw [hmb0] at hM hkl e1 hbq
        rw [hc] at hkb e1 ⊢
        clear hmb0 hc hbq
        go_wp2
        obtain ⟨wo, rfl⟩ : ∃ wo : World, wo = wr := ⟨_, rfl⟩
        have h16 : mb0.count false ≤ 16 := by rw [← hkl]; exact List.count_le_length
        go_loopg [7] 16 (fun f p wx => ∃ (q : Int) (mb : List Bool), 0 ≤ q ∧ q < 2 * n ∧ p = .int .i64 q ∧ Hid (mb.length = 16) ∧ mb.count false ≤ f ∧ Hid (clW n ms f q mb = clW n ms 16 k mb0) ∧ Own wx w.heap.size (dcells n ms) 53 ∧ Own wx (w.heap.size + 1) (bcells mb) 129 ∧ Below w.heap.size w wx)
        case atStart => exact ⟨k, mb0, by omega, hlt, rfl, Lib.hid hkl, h16, Lib.hid rfl, hO, hM, hB⟩
        case round =>
          clear hO hM hB k1 hkl h16
          obtain ⟨q, mb, hq0, hq2, rfl, hml, hcnt, hW, hO, hM, hB⟩ := hrel
          have j1 := hM.cell q.toNat
          rw [bcells_get _ _ (by rw [hml.out]; omega)] at j1
          obtain ⟨b, hbq⟩ : ∃ b, mb.getD q.toNat true = b := ⟨_, rfl⟩
          rw [hbq] at j1
          have q16 : q < 16 := by omega
          cases b with
          | true =>
            have e2 := Lib.hid (show clW n ms 16 k mb0 = mb by rw [← hW.out, clW_met _ _ _ _ _ hbq])
            have e3 := Lib.hid (show cloL n ms (k + 1) = (mb, c + 1) by rw [e1.out, e2.out])
            clear hbq hW e2 e1
            go_wp2
            go_roundw
            case rel => exact ⟨k + 1, by omega, by go_num, by rw [e3.out], hO, by rw [e3.out]; exact hM, hB⟩
            case measure => simp [intOf]; omega
          | false =>
            obtain ⟨f', hf⟩ : ∃ f', gk = f' + 1 := ⟨gk - 1, by have := cnt_lt mb q.toNat hbq; omega⟩
            subst hf
            have hst := clW_step n ms f' q mb hbq
            obtain ⟨m, hm⟩ : ∃ m, mate ms q = m := ⟨_, rfl⟩
            have hmb := hmt.out q hq0 hq2
            rw [hm] at hst hmb
            obtain ⟨m0, m2⟩ := hmb
            have m16 : m < 16 := by omega
            have c1 : wr.cell? ⟨w.heap.size, 1 + q.toNat, none⟩ = some (.int .u8 m) := by rw [hO.cell, dcells_get _ _ _ (by rw [hl.out]; omega)]; unfold mate at hm; rw [hm]
            have c3 : (wr.setCell ⟨w.heap.size + 1, q.toNat, none⟩ (.bool true)).cell? ⟨w.heap.size + 1, m.toNat, none⟩ = some (.bool ((mb.set q.toNat true).getD m.toNat true)) := by
              rw [(hM.set _ _).cell, bcells_set, bcells_get _ _ (by rw [List.length_set, hml.out]; omega)]
            have f1 := hM.free q.toNat
            have f2 := hM.free m.toNat
            have hM2 := (hM.set q.toNat (.bool true)).set m.toNat (.bool true)
            rw [bcells_set, bcells_set] at hM2
            have hO2 := (hO.other (a := ⟨w.heap.size + 1, q.toNat, none⟩) (by simp) (.bool true)).other (a := ⟨w.heap.size + 1, m.toNat, none⟩) (by simp) (.bool true)
            have hB2 := (hB.setCell (p := ⟨w.heap.size + 1, q.toNat, none⟩) (by simp) (.bool true)).setCell (p := ⟨w.heap.size + 1, m.toNat, none⟩) (by simp) (.bool true)
            have hcnt2 : ((mb.set q.toNat true).set m.toNat true).count false ≤ f' := by
              have x1 := cnt_lt mb q.toNat hbq
              have x2 := cnt_le (mb.set q.toNat true) m.toNat
              omega
            have hW2 := Lib.hid (hst.symm.trans hW.out)
            have hL2 := Lib.hid (show ((mb.set q.toNat true).set m.toNat true).length = 16 by rw [List.length_set, List.length_set]; exact hml.out)
            have r0 : 0 ≤ (m + n) % (2 * n) := Int.emod_nonneg _ (by omega)
            have r2 : (m + n) % (2 * n) < 2 * n := Int.emod_lt_of_pos _ (by omega)
            have K1 := Lib.hid hM2
            have K2 := Lib.hid hO2
            have K3 := Lib.hid hB2
            have K4 := Lib.hid r0
            have K5 := Lib.hid r2
            have K6 := Lib.hid hcnt2
            clear hM2 hO2 hB2 r0 r2 hcnt2 hst hm hW hcnt hbq
            go_wp2
            go_roundg f'
            case measure => omega
            case rel => exact ⟨_, _, K4.out, K5.out, rfl, hL2, K6.out, hW2, K2.out, K1.out, K3.out⟩
    · have e := Lib.hid (show (2 * n).toNat = k by omega)
      go_wp2
      go_ret
      exact ⟨by rw [e.out]; rfl, hB⟩
end Go.Proofs.Ytbibmncepjmgcaa
