/- ClosureOfBlobbed: the model's loop, the answers and the law. -/
import Derived.Test.YtbegolbognkefaaCli
import Derived.Test.YtbegolbognkefaaOla
namespace Go.Proofs.Ytbegolbognkefaa
open Go.RowKit Go.Lib
set_option linter.unusedVariables false
set_option linter.unusedSimpArgs false
theorem mk2c : ∀ w : World, (Instr.buildSlice 25 2 #[(0, .int .i64 0), (1, .int .i64 0)]).run Try.prog w = .ok (.slice (some ⟨w.heap.size, 0, none⟩) 2 2) (w.alloc (.cells (icells [0, 0]) 2)) := by
  intro w; kernel_rfl
def bi (b : Bool) : Int := if b then 1 else 0
theorem icO {w : World} {g : Nat} {x y : Int} (h : Own w g (icells [x, y]) 2) (B : Nat) (hb : B ≤ g) : Mn w B (some ⟨g, 0, none⟩) [x, y] := Mn.new hb h
set_option maxRecDepth 100000 in
set_option maxHeartbeats 8000000 in
theorem clbS_ok (n : Int) (ms : List Int) (bs : List Bool) (hms : ms.length = 16) (hbs : bs.length = 16) (hb : Bytes ms) (hd : isB n ms bs = true) (w : World) :
    Calls Try.prog 33 #[.agg (bcl n ms bs)] w (ResI [(clQ n ms bs (2 * n).toNat).2.1, (clQ n ms bs (2 * n).toNat).2.2] 0 w) := by
  have hn := net_of n ms hms hb (isB_isD hd)
  obtain ⟨h1, h8⟩ := hn.bd
  have hl := Lib.hid hms
  have hk := Lib.hid hbs
  have hc := Lib.hid (fun w => isBS_any n ms bs hms hbs hb w)
  rw [hd] at hc
  have hnm := Lib.hid (fun (i : Int) h0 h2 => net_mate hn i h0 h2)
  have hcc := Lib.hid (bcl_zero n ms bs)
  have hmk := mk2c
  clear hms hbs hb hn hd
  go_enter Try.func33, Try.ntmps33
  go_upto_region 3 with (first
    | (refine wpList_load_row rfl 38 _ rfl _ rfl 38 _ (0, 0) _ (Own.new _ _ _) Try.underlying38 rfl (rowB (b33 _ _ _ (hl.out) (hk.out))) ?_)
    | ((go_at_call 43; ((with_reducible refine (hc.out _).mono ?_); rintro e w1 ⟨rfl, hB1⟩)); have hO1 : Own w1 w.heap.size (bcl n ms bs) 38 := (Own.new _ _ _).below hB1 (by simp); have b1 := ((Below.refl w.heap.size w).alloc (Nat.le_refl _) (.cells (bcl n ms bs) 38)).trans (hB1.mono (by simp)); have c0 := hO1.cell 0; rw [hcc.out] at c0))
  have l1 := hO1.lt
  go_upto_region 4 with (first
    | (refine wpList_build_of rfl 33 #[] rfl (bools zbs) ?_ ?_; (exact builtBo))
    | (refine wpList_store_own rfl 33 _ _ rfl _ _ rfl rfl 33 _ (Own.at (w1.alloc _) _ _ (by simp)) (rowbo (o16 _ zbsl)) rfl (bools_one _) ?_; intro w3 hT3 hN3))
  have nO : Own w3 w.heap.size (bcl n ms bs) 38 := ((hO1.alloc _).alloc _).only hN3 (by omega)
  have nL : Own w3 w1.heap.size (icells [(clQ n ms bs 0).2.1, (clQ n ms bs 0).2.2]) 2 := ((Own.new w1 (icells [0, 0]) 2).alloc _).only hN3 (by omega)
  have nM : Own w3 (w1.heap.size + 1) (bools (clQ n ms bs 0).1) 33 := hT3
  have nB : Below w.heap.size w w3 := ((b1.alloc b1.size _).alloc (by simp; omega) _).trans (hN3.below.mono (by omega))
  obtain ⟨gl, hgl⟩ : ∃ x, x = w1.heap.size := ⟨_, rfl⟩
  rw [← hgl] at nL nM l1 ⊢
  clear hmk hgl hO1 hB1 b1 c0 hN3 hT3 hc
  go_wp2
  go_loopw [7] (fun i wr => ∃ k : Nat, k ≤ 2 * n ∧ i = .int .i64 k ∧ Own wr w.heap.size (bcl n ms bs) 38 ∧ Own wr gl (icells [(clQ n ms bs k).2.1, (clQ n ms bs k).2.2]) 2 ∧ Own wr (gl + 1) (bools (clQ n ms bs k).1) 33 ∧ Below w.heap.size w wr) (fun i _ => (2 * n - intOf i).toNat)
  case atStart => exact ⟨0, by omega, rfl, nO, nL, nM, nB⟩
  case round =>
    clear nO nL nM nB
    obtain ⟨k, hk2, rfl, hO, hL, hM, hB⟩ := hrel
    have hkl := clQ_len n ms bs k
    obtain ⟨x1, x2, x3, x4⟩ := clQ_bd n ms bs k
    by_cases hlt : (k : Int) < 2 * n
    · have hlt16 : (k : Int) < 16 := by omega
      have k1 := hM.cell k
      rw [bools_get _ _ (by rw [hkl]; omega), getD_tf _ _ (by rw [hkl]; omega)] at k1
      obtain ⟨b, hbq⟩ : ∃ b, (clQ n ms bs k).1.getD k true = b := ⟨_, rfl⟩
      rw [hbq] at k1
      cases b with
      | true =>
        have e1 := Lib.hid (show clQ n ms bs (k + 1) = clQ n ms bs k by rw [clQ, if_pos hbq])
        clear hbq
        go_wp2
        go_roundw
        case rel => exact ⟨k + 1, by omega, by go_num, hO, by rw [e1.out]; exact hL, by rw [e1.out]; exact hM, hB⟩
        case measure => simp [intOf]; omega
      | false =>
        obtain ⟨mb0, hmb0⟩ : ∃ mb0, (clQ n ms bs k).1 = mb0 := ⟨_, rfl⟩
        obtain ⟨ca, hca⟩ : ∃ c, (clQ n ms bs k).2.1 = c := ⟨_, rfl⟩
        obtain ⟨cb, hcb⟩ : ∃ c, (clQ n ms bs k).2.2 = c := ⟨_, rfl⟩
        have e1 := Lib.hid (show ∀ r, clX n ms bs 16 k mb0 false = r → clQ n ms bs (k + 1) = (r.1, ca + (if r.2 then 0 else 1), cb + (if r.2 then 1 else 0)) from fun r hr => by rw [clQ, if_neg (by rw [hbq]; simp), hmb0, hca, hcb, hr])
        rw [hmb0] at hM hkl hbq
        rw [hca, hcb] at hL
        rw [hca] at x1 x2
        rw [hcb] at x3 x4
        clear hmb0 hca hcb hbq
        go_wp2
        obtain ⟨wo, rfl⟩ : ∃ wo : World, wo = wr := ⟨_, rfl⟩
        have h16 : mb0.count false ≤ 16 := by rw [← hkl]; exact List.count_le_length
        go_loopg [8, 9] 16 (fun f kv p wx => ∃ (q : Int) (mb : List Bool) (acc : Bool) (z : Int), 0 ≤ q ∧ q < 2 * n ∧ p = .int .i64 q ∧ kv = .int .i64 z ∧ z = bi acc ∧ Hid (mb.length = 16) ∧ mb.count false ≤ f ∧ Hid (clX n ms bs f q mb acc = clX n ms bs 16 k mb0 false) ∧ Own wx w.heap.size (bcl n ms bs) 38 ∧ Own wx gl (icells [ca, cb]) 2 ∧ Own wx (gl + 1) (bools mb) 33 ∧ Below w.heap.size w wx)
        case atStart => exact ⟨k, mb0, false, 0, by omega, hlt, rfl, rfl, rfl, Lib.hid hkl, h16, Lib.hid rfl, hO, hL, hM, hB⟩
        case round =>
          clear hO hM hB hL k1 hkl h16
          obtain ⟨q, mb, acc, z, hq0, hq2, rfl, rfl, hz, hml, hcnt, hW, hO, hL, hM, hB⟩ := hrel
          have j1 := hM.cell q.toNat
          rw [bools_get _ _ (by rw [hml.out]; omega), getD_tf _ _ (by rw [hml.out]; omega)] at j1
          obtain ⟨b, hbq⟩ : ∃ b, mb.getD q.toNat true = b := ⟨_, rfl⟩
          rw [hbq] at j1
          have q16 : q < 16 := by omega
          cases b with
          | true =>
            have e2 : clX n ms bs 16 k mb0 false = (mb, acc) := by rw [← hW.out, clX_met _ _ _ _ _ _ _ hbq]
            have e3 := Lib.hid (e1.out _ e2)
            clear hbq hW e2 e1
            have g1 : wr.cell? ⟨gl, 0, none⟩ = some (.int .i64 ca) := hL.cell 0
            have g2 := hL.free 0
            have g3 : wr.cell? ⟨gl, 1, none⟩ = some (.int .i64 cb) := hL.cell 1
            have g4 := hL.free 1
            cases acc with
            | true =>
              obtain rfl : z = 1 := hz
              have hL6 : Own (wr.setCell ⟨gl, 1, none⟩ (.int .i64 (cb + 1))) gl (icells [ca, cb + 1]) 2 := hL.set 1 _
              have hO6 := hO.other (a := ⟨gl, 1, none⟩) (by simp; omega) (.int .i64 (cb + 1))
              have hM6 := hM.other (a := ⟨gl, 1, none⟩) (by simp) (.int .i64 (cb + 1))
              have hB6 := hB.setCell (p := ⟨gl, 1, none⟩) (by show _ ≤ gl; omega) (.int .i64 (cb + 1))
              have K1 := Lib.hid hL6
              have K2 := Lib.hid hO6
              have K3 := Lib.hid hM6
              have K4 := Lib.hid hB6
              clear hL6 hO6 hM6 hB6 hO hL hM hB
              go_wp2
              go_roundw
              case rel => exact ⟨k + 1, by omega, by go_num, K2.out, by rw [e3.out]; simpa using K1.out, by rw [e3.out]; exact K3.out, K4.out⟩
              case measure => simp [intOf]; omega
            | false =>
              obtain rfl : z = 0 := hz
              have hL6 : Own (wr.setCell ⟨gl, 0, none⟩ (.int .i64 (ca + 1))) gl (icells [ca + 1, cb]) 2 := hL.set 0 _
              have hO6 := hO.other (a := ⟨gl, 0, none⟩) (by simp; omega) (.int .i64 (ca + 1))
              have hM6 := hM.other (a := ⟨gl, 0, none⟩) (by simp) (.int .i64 (ca + 1))
              have hB6 := hB.setCell (p := ⟨gl, 0, none⟩) (by show _ ≤ gl; omega) (.int .i64 (ca + 1))
              have K1 := Lib.hid hL6
              have K2 := Lib.hid hO6
              have K3 := Lib.hid hM6
              have K4 := Lib.hid hB6
              clear hL6 hO6 hM6 hB6 hO hL hM hB
              go_wp2
              go_roundw
              case rel => exact ⟨k + 1, by omega, by go_num, K2.out, by rw [e3.out]; simpa using K1.out, by rw [e3.out]; exact K3.out, K4.out⟩
              case measure => simp [intOf]; omega
          | false =>
            obtain ⟨f', hf⟩ : ∃ f', gk = f' + 1 := ⟨gk - 1, by have := cnt_lt mb q.toNat hbq; omega⟩
            subst hf
            have hst := clX_step n ms bs f' q mb acc hbq
            obtain ⟨m, hm⟩ : ∃ m, mate ms q = m := ⟨_, rfl⟩
            obtain ⟨v, hv⟩ : ∃ v, bs.getD q.toNat false = v := ⟨_, rfl⟩
            have hmb := hnm.out q hq0 hq2
            rw [hm] at hst hmb
            rw [hv] at hst
            obtain ⟨m0, m2, _⟩ := hmb
            have m16 : m < 16 := by omega
            have f1 := hM.free q.toNat
            have f2 := hM.free m.toNat
            have hM1 := hM.set q.toNat (.bool true)
            rw [bools_set] at hM1
            have hM2 := hM1.set m.toNat (.bool true)
            rw [bools_set] at hM2
            have hO1 := hO.other (a := ⟨gl + 1, q.toNat, none⟩) (by simp; omega) (.bool true)
            have hO2 := hO1.other (a := ⟨gl + 1, m.toNat, none⟩) (by simp; omega) (.bool true)
            have hL2 := (hL.other (a := ⟨gl + 1, q.toNat, none⟩) (by simp) (.bool true)).other (a := ⟨gl + 1, m.toNat, none⟩) (by simp) (.bool true)
            have hB2 := (hB.setCell (p := ⟨gl + 1, q.toNat, none⟩) (by show _ ≤ gl + 1; omega) (.bool true)).setCell (p := ⟨gl + 1, m.toNat, none⟩) (by show _ ≤ gl + 1; omega) (.bool true)
            have c1 : (wr.setCell ⟨gl + 1, q.toNat, none⟩ (.bool true)).cell? ⟨w.heap.size, 17 + q.toNat, none⟩ = some (.bool v) := by rw [hO1.cell, bcl_blob _ _ _ hl.out _ (by rw [hk.out]; omega), hv]
            have c1' : wr.cell? ⟨w.heap.size, 17 + q.toNat, none⟩ = some (.bool v) := by rw [hO.cell, bcl_blob _ _ _ hl.out _ (by rw [hk.out]; omega), hv]
            have c2 : (wr.setCell ⟨gl + 1, q.toNat, none⟩ (.bool true)).cell? ⟨w.heap.size, 1 + q.toNat, none⟩ = some (.int .u8 m) := by rw [hO1.cell, bcl_mate _ _ _ _ (by rw [hl.out]; omega)]; unfold mate at hm; rw [hm]
            have c3 : (wr.setCell ⟨gl + 1, q.toNat, none⟩ (.bool true)).cell? ⟨gl + 1, m.toNat, none⟩ = some (.bool ((mb.set q.toNat true).getD m.toNat false)) := by
              rw [hM1.cell, bools_get _ _ (by rw [List.length_set, hml.out]; omega)]
            have f3 := hM1.free m.toNat
            have hcnt2 : ((mb.set q.toNat true).set m.toNat true).count false ≤ f' := by
              have x1 := cnt_lt mb q.toNat hbq
              have x2 := cnt_le (mb.set q.toNat true) m.toNat
              omega
            have hW2 := Lib.hid (hst.symm.trans hW.out)
            have hLn2 := Lib.hid (show ((mb.set q.toNat true).set m.toNat true).length = 16 by rw [List.length_set, List.length_set]; exact hml.out)
            obtain ⟨y, hy⟩ : ∃ y, (m + n) % (2 * n) = y := ⟨_, rfl⟩
            rw [hy] at hW2
            have r0 : 0 ≤ y := by rw [← hy]; exact Int.emod_nonneg _ (by omega)
            have r2 : y < 2 * n := by rw [← hy]; exact Int.emod_lt_of_pos _ (by omega)
            have hy2 : (m + n).tmod (2 * n) = y := by rw [Int.tmod_eq_emod_of_nonneg (by omega)]; exact hy
            have n0 : ¬ (2 * n = 0) := by omega
            have z2 : IntKind.i64.wrap (2 * n) = 2 * n := IntWalk.i64_in _ (by omega)
            have z4 : IntKind.i64.wrap (m + n) = m + n := IntWalk.i64_in _ (by omega)
            have z3 : IntKind.i64.wrap y = y := IntWalk.i64_in _ (by omega)
            have z5 : IntKind.i64.wrap m = m := IntWalk.i64_in _ (by omega)
            have K1 := Lib.hid hM2
            have K2 := Lib.hid hO2
            have K3 := Lib.hid hB2
            have K4 := Lib.hid hL2
            have K6 := Lib.hid hcnt2
            have KY := Lib.hid hy
            have HZ := Lib.hid hz
            clear hM2 hO2 hB2 hL2 hcnt2 hst hm hW hcnt hbq hv hy e1 hO hM hB hL hM1 hO1 hz
            cases v with
            | true =>
              go_wp2
              go_roundg f'
              case measure => omega
              case rel => exact ⟨y, _, acc || true, 1, r0, r2, rfl, rfl, by rw [Bool.or_true]; rfl, hLn2, K6.out, hW2, K2.out, K4.out, K1.out, K3.out⟩
            | false =>
              go_wp2
              go_roundg f'
              case measure => omega
              case rel => exact ⟨y, _, acc || false, z, r0, r2, rfl, rfl, by rw [Bool.or_false]; exact HZ.out, hLn2, K6.out, hW2, K2.out, K4.out, K1.out, K3.out⟩
    · have e := Lib.hid (show (2 * n).toNat = k by omega)
      have hR := Lib.hid (icO hL w.heap.size (by omega))
      clear hL hM
      go_wp2
      go_ret2
      exact ⟨some ⟨gl, 0, none⟩, 2, rfl, by rw [e.out]; exact hR.out, hB⟩
set_option maxRecDepth 100000 in
theorem clbS_bad (n : Int) (ms : List Int) (bs : List Bool) (hms : ms.length = 16) (hbs : bs.length = 16) (hb : Bytes ms) (hd : isB n ms bs = false) (w : World) :
    Calls Try.prog 33 #[.agg (bcl n ms bs)] w (ResI [] 1 w) := by
  have hl := Lib.hid hms
  have hk := Lib.hid hbs
  have hc := Lib.hid (fun w => isBS_any n ms bs hms hbs hb w)
  rw [hd] at hc
  clear hms hbs hb hd
  go_enter Try.func33, Try.ntmps33
  go_wp2_with (first
    | (refine wpList_load_row rfl 38 _ rfl _ rfl 38 _ (0, 0) _ (Own.new _ _ _) Try.underlying38 rfl (rowB (b33 _ _ _ (hl.out) (hk.out))) ?_)
    | ((go_at_call 43; ((with_reducible refine (hc.out _).mono ?_); rintro e w1 ⟨rfl, hB1⟩))))
  go_ret2
  exact ⟨none, 0, rfl, Mn.nil _ _, ((Below.refl _ _).alloc (Nat.le_refl _) _).trans (hB1.mono (by simp))⟩
set_option maxRecDepth 100000 in
theorem clbI_bad (n : Int) (ms : List Int) (bs : List Bool) (hms : ms.length = 16) (hbs : bs.length = 16) (hb : Bytes ms) (hd : isB n ms bs = false) (w : World) :
    Calls Try.prog 34 #[.agg (bcl n ms bs)] w (ResI [] 1 w) := by
  have hl := Lib.hid hms
  have hk := Lib.hid hbs
  have hc := Lib.hid (fun w => isBlI_any n ms bs hms hbs hb w)
  rw [hd] at hc
  clear hms hbs hb hd
  go_enter Try.func34, Try.ntmps34
  go_wp2_with (first
    | (refine wpList_load_row rfl 38 _ rfl _ rfl 38 _ (0, 0) _ (Own.new _ _ _) Try.underlying38 rfl (rowB (b33 _ _ _ (hl.out) (hk.out))) ?_)
    | ((go_at_call 20; ((with_reducible refine (hc.out _).mono ?_); rintro e w1 ⟨rfl, hB1⟩))))
  go_ret2
  exact ⟨none, 0, rfl, Mn.nil _ _, ((Below.refl _ _).alloc (Nat.le_refl _) _).trans (hB1.mono (by simp))⟩
set_option maxRecDepth 100000 in
theorem clbI_ok (n : Int) (ms : List Int) (bs : List Bool) (hms : ms.length = 16) (hbs : bs.length = 16) (hb : Bytes ms) (hd : isB n ms bs = true) (w : World) :
    Calls Try.prog 34 #[.agg (bcl n ms bs)] w (ResI [(clQ n ms bs (2 * n).toNat).2.1, (clQ n ms bs (2 * n).toNat).2.2] 0 w) := by
  have hn := net_of n ms hms hb (isB_isD hd)
  have hl := Lib.hid hms
  have hk := Lib.hid hbs
  have hc := Lib.hid (fun w => isBlI_any n ms bs hms hbs hb w)
  rw [hd] at hc
  have ho := Lib.hid (fun w => clbI_any n ms bs hms hbs hb hn w)
  clear hms hbs hb hd hn
  go_enter Try.func34, Try.ntmps34
  go_wp2_with (first
    | (refine wpList_load_row rfl 38 _ rfl _ rfl 38 _ (0, 0) _ (hO1) Try.underlying38 rfl (rowB (b33 _ _ _ (hl.out) (hk.out))) ?_)
    | (refine wpList_load_row rfl 38 _ rfl _ rfl 38 _ (0, 0) _ (Own.new _ _ _) Try.underlying38 rfl (rowB (b33 _ _ _ (hl.out) (hk.out))) ?_)
    | ((go_at_call 20; ((with_reducible refine (hc.out _).mono ?_); rintro e w1 ⟨rfl, hB1⟩)); have hO1 : Own w1 w.heap.size (bcl n ms bs) 38 := (Own.new _ _ _).below hB1 (by simp); have b1 := ((Below.refl w.heap.size w).alloc (Nat.le_refl _) (.cells (bcl n ms bs) 38)).trans (hB1.mono (by simp)))
    | ((go_at_call 57; ((with_reducible refine (ho.out _).mono ?_); rintro e w2 ⟨rfl, hL2, hB2⟩))))
  go_ret2
  exact ⟨_, _, rfl, icO hL2 w.heap.size (by have := b1.size; omega), b1.trans (hB2.mono b1.size)⟩
set_option maxRecDepth 100000 in
set_option maxHeartbeats 4000000 in
theorem ClosureOfBlobbed_walk (n : Int) (ms : List Int) (hms : ms.length = 16) (bs : List Bool) (hbs : bs.length = 16) (w : World) (xs : List Int) (hlx : xs.length ≤ 100000) (c : Int)
    (hS : ∀ w, Calls Try.prog 33 #[.agg (bcl n ms bs)] w (ResI xs c w))
    (hI : ∀ w, Calls Try.prog 34 #[.agg (bcl n ms bs)] w (ResI xs c w)) :
    Calls Try.prog 10 #[.agg (bcl n ms bs)] w fun e w' => e = .returned (.bool true) ∧ Below w.heap.size w w' := by
  have hl := Lib.hid hms
  have hS' := Lib.hid hS
  have hI' := Lib.hid hI
  have hbl := Lib.hid hbs
  clear hbs
  obtain ⟨l1, hm1⟩ : ∃ m, xs.length = m := ⟨_, rfl⟩
  have he1 := Lib.hid (fun p q cap cap' w hR hQ => eqI_same p q cap cap' xs (by omega) w hR hQ)
  have hk1 := Lib.hid (fun B p cap w hM hB => mark_any B p cap xs (by omega) 1 (by omega) (by omega) w hM hB)
  have hh1 := Lib.hid (fun p cap w hR => held_any p cap l1 (by omega) 1 (by omega) (by omega) w hR)
  have hrs := Lib.hid (show ∀ w e w', ResI xs c w e w' → ∃ (p : Option Addr) (cap : Nat), e = .returned (.tuple #[.slice p l1 cap, .int .i64 c]) ∧ Mn w' w.heap.size p xs ∧ Below w.heap.size w w' from fun w e w' h => by
    obtain ⟨p, cap, h1, h2⟩ := h
    rw [hm1] at h1
    exact ⟨p, cap, h1, h2⟩)
  have ll1 : l1 ≤ 100000 := by omega
  rw [hm1] at he1 hk1
  clear hms hS hI hm1 hlx
  go_enter Try.func10, Try.ntmps10
  go_wp2_with (first
    | (go_at_call 17; ((with_reducible refine (hh1.out _ _ w9 (((hp1a.below hB7 (Nat.le_refl _)).below hB8 (Nat.le_refl _)).below hB9 (Nat.le_refl _)).rd).mono ?_); rintro e w9b ⟨rfl, rfl⟩))
    | (go_at_call 15; ((with_reducible refine (he1.out _ _ _ _ w8 hr1.rd ((hq1h.below hB7 (Nat.le_refl _)).below hB8 (Nat.le_refl _)).rd).mono ?_); rintro e w9 ⟨rfl, hB9⟩))
    | (go_at_call 34; ((with_reducible refine (hI'.out w7).mono ?_); rintro e w8 hres8; obtain ⟨r1, rc1, rfl, hr1, hB8⟩ := hrs.out _ _ _ hres8))
    | (go_at_call 19; ((with_reducible refine (toBl_any n ms bs hl.out hbl.out w6b).mono ?_); rintro e w7 ⟨rfl, hB7⟩))
    | (refine wpList_load_row rfl 35 _ rfl _ rfl 35 _ (0, 0) _ (hA6) Try.underlying35 rfl (rowLB (b33 _ _ _ (hl.out) (hbl.out))) ?_)
    | (go_at_call 17; ((with_reducible refine (hh1.out _ _ w6 hp1a.rd).mono ?_); rintro e w6b ⟨rfl, rfl⟩))
    | (go_at_call 16; ((with_reducible refine (hk1.out w3.heap.size _ _ w5 (hp1.below hB5 (Nat.le_refl _)) (Nat.le_trans hB4.size hB5.size)).mono ?_); rintro e w6 ⟨rfl, hp1a, hB6⟩; have bq : Below w3.heap.size w3 w6 := (hB4.trans (hB5.mono hB4.size)).trans hB6; have hq1h := hq1c.below bq (Nat.le_refl _); have hA6 : Own w6 w.heap.size (bcl n ms bs) 35 := hA3.below bq hA3.lt))
    | (go_at_call 15; ((with_reducible refine (he1.out _ _ _ _ w4 hp1.rd (hq1c.below hB4 (Nat.le_refl _)).rd).mono ?_); rintro e w5 ⟨rfl, hB5⟩))
    | (go_at_call 34; ((with_reducible refine (hI'.out w3).mono ?_); rintro e w4 hres4; obtain ⟨p1, pc1, rfl, hp1, hB4⟩ := hrs.out _ _ _ hres4))
    | (go_at_call 19; ((with_reducible refine (toBl_any n ms bs hl.out hbl.out w2).mono ?_); rintro e w3 ⟨rfl, hB3⟩; have hq1c := hq1.below hB3 (Nat.le_refl _); have hA3 := hA2.below hB3 hA2.lt))
    | (refine wpList_load_row rfl 35 _ rfl _ rfl 35 _ (0, 0) _ (hA2) Try.underlying35 rfl (rowLB (b33 _ _ _ (hl.out) (hbl.out))) ?_)
    | (go_at_call 33; ((with_reducible refine (hS'.out w1).mono ?_); rintro e w2 hres2; obtain ⟨q1, qc1, rfl, hq1, hB2⟩ := hrs.out _ _ _ hres2; have hA2 := hA1.below hB2 hA1.lt))
    | (go_at_call 19; ((with_reducible refine (toBl_any n ms bs hl.out hbl.out _).mono ?_); rintro e w1 ⟨rfl, hB1⟩; have hA1 : Own w1 w.heap.size (bcl n ms bs) 35 := (Own.new _ _ _).below hB1 (by simp)))
    | (refine wpList_load_row rfl 35 _ rfl _ rfl 35 _ (0, 0) _ (Own.new _ _ _) Try.underlying35 rfl (rowLB (b33 _ _ _ (hl.out) (hbl.out))) ?_))
  go_ret
  have b0 : Below w.heap.size w (w.alloc (.cells (bcl n ms bs) 35)) := (Below.refl _ _).alloc (Nat.le_refl _) _
  have b1 := b0.trans (hB1.mono b0.size)
  have b2 := b1.trans (hB2.mono b1.size)
  have b3 := b2.trans (hB3.mono b2.size)
  have b8 := b3.trans (bq.mono b3.size)
  have b9 := b8.trans (hB7.mono b8.size)
  have b10 := b9.trans (hB8.mono b9.size)
  exact ⟨rfl, b10.trans (hB9.mono b10.size)⟩
theorem clb_law (n : Int) (ms : List Int) (bs : List Bool) (hms : ms.length = 16) (hb : Bytes ms) (hbs : bs.length = 16) (w : World) :
    Calls Try.prog 10 #[.agg (bcl n ms bs)] w fun e w' => e = .returned (.bool true) ∧ Below w.heap.size w w' := by
  cases hd : isB n ms bs with
  | true => exact ClosureOfBlobbed_walk n ms hms bs hbs w _ (by simp) 0 (clbS_ok n ms bs hms hbs hb hd) (clbI_ok n ms bs hms hbs hb hd)
  | false => exact ClosureOfBlobbed_walk n ms hms bs hbs w [] (by simp) 1 (clbS_bad n ms bs hms hbs hb hd) (clbI_bad n ms bs hms hbs hb hd)
end Go.Proofs.Ytbegolbognkefaa
