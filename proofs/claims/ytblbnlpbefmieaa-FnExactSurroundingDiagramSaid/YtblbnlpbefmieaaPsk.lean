/- The law of SurroundingDiagram. -/
import Derived.Test.YtblbnlpbefmieaaPsi
import Derived.Test.YtblbnlpbefmieaaLawPw
namespace Go.Proofs.Ytblbnlpbefmieaa
open Go.RowKit
set_option linter.unusedVariables false
set_option maxRecDepth 100000 in
set_option maxHeartbeats 8000000 in
theorem surDI_ok (N : Nat) (ms : List Int) (hms : ms.length = 8) (hd : isP N ms = true) (hc : ¬ Crs (arZ N ms N (2 * N)) (2 * N)) (w : World) (h1 : 1 ≤ N) (h4 : N ≤ 4) :
    Calls Try.prog 23 #[.agg (dcells N ms)] w fun e w' => e = .returned (.tuple #[.agg (dcells (2 * (N : Int)) (sj (arZ N ms N (2 * N)) (2 * N) (2 * N))), .int .i64 0]) ∧ Below w.heap.size w w' := by
  have hl := Lib.hid hms
  have hnum := isP_nums hms hd
  have hcl := Lib.hid (fun w => isPI_any N ms hms w)
  rw [hd] at hcl
  have hsh := Lib.hid (fun w => shapeOf_nat N ms hms hnum w h1 h4)
  have hpl := Lib.hid (fun ga gp w hO => planI_cr (ga := ga) (gp := gp) (P := parN ms N) (arZ_len N ms N (2 * N)) (by omega) true (by simpa using hc) w hO)
  have hal := Lib.hid (arZ_len N ms N (2 * N))
  have c0 := dcells_zero N ms
  generalize arZ N ms N (2 * N) = a at *
  generalize parN ms N = P at *
  have hsl := Lib.hid (sj_len a (2 * N))
  clear hms hd hc hnum
  go_enter Try.func23, Try.ntmps23
  go_wp2_with (first
    | (refine wpList_load_row rfl 28 _ rfl _ rfl 28 _ (0, 0) _ ((Own.new _ _ _).alloc _) Try.underlying28 rfl (rowP (d9 _ _ (hl.out))) ?_)
    | (go_at_call 45; ((with_reducible refine (hcl.out _).mono ?_); rintro e w1 ⟨rfl, hB1⟩; have hO1 : Own w1 w.heap.size (dcells N ms) 28 := ((Own.new _ _ _).alloc _).below hB1 (by simp <;> omega); have hR1 : Own w1 (w.heap.size + 1) zcells 35 := (Own.at _ _ _ (by simp)).below hB1 (by simp); have hBw : Below w.heap.size w w1 := (((Below.refl w.heap.size w).alloc (Nat.le_refl _) _).alloc (by simp) _).trans (hB1.mono (by simp <;> omega)); clear hB1))
    | (refine wpList_load_row rfl 28 _ rfl _ rfl 28 _ (0, 0) _ (hO1) Try.underlying28 rfl (rowP (d9 _ _ (hl.out))) ?_)
    | (go_at_call 84; ((with_reducible refine (hsh.out _).mono ?_); rintro e w2 ⟨ga, gp, rfl, hga, hgp, hA2, hP2, hB2⟩; have hR2 := hR1.below hB2 hR1.lt; have hO2 := hO1.below hB2 hO1.lt; have hB3 : Below w.heap.size w w2 := hBw.trans (hB2.mono hBw.size); have l1 := hR1.lt; clear hB2))
    | (refine wpList_store_own rfl 87 _ _ rfl _ (shc ga gp (2 * N) P) rfl rfl 87 _ (Own.new w2 _ _) (rowSh rfl) rfl (by simp [shc, Value.oneCell']) ?_; intro w3 hO3 hN3; have hR3 := (hR2.alloc _).only hN3 (Nat.ne_of_lt hR2.lt); have hQ3 := (hO2.alloc _).only hN3 (Nat.ne_of_lt hO2.lt); have hA3 := (hA2.alloc _).only hN3 (Nat.ne_of_lt hA2.lt); have hB4 := (hB3.alloc hB3.size _).trans (hN3.below.mono hB3.size))
    | (refine wpList_load_row rfl 87 _ rfl _ rfl 87 _ (0, 0) _ hO3 Try.underlying87 rfl (rowSh (c := shc ga gp (2 * N) P) rfl) ?_)
    | (go_at_call 85; ((with_reducible refine (hpl.out ga gp _ hA3).mono ?_); rintro e w5 ⟨rfl, hB5⟩; have hR5 := hR3.below hB5 hR3.lt; have hS5 := hO3.below hB5 hO3.lt; have hA5 := hA3.below hB5 hA3.lt; have hB6 := hB4.trans (hB5.mono hB4.size); have k0 := ((hQ3.below hB5 hQ3.lt).cell 0).trans c0; clear hB5))
    | (go_at_call 87; ((with_reducible refine (newMates_any _).mono ?_); rintro e w0 ⟨rfl, rfl⟩)))
  have ne1 : w.heap.size + 1 ≠ w5.heap.size := Nat.ne_of_lt hR5.lt
  have ne2 : w2.heap.size ≠ w5.heap.size := Nat.ne_of_lt hS5.lt
  have ne3 : ga ≠ w5.heap.size := Nat.ne_of_lt hA5.lt
  have lg : w.heap.size ≤ w5.heap.size := hB6.size
  have HR5 := Lib.hid (show Own (w5.alloc (.cells (mcells zeros) 5)) (w.heap.size + 1) zcells 35 from hR5.alloc _)
  have HS5 := Lib.hid (show Own (w5.alloc (.cells (mcells zeros) 5)) w2.heap.size (shc ga gp (2 * N) P) 87 from hS5.alloc _)
  have HA5 := Lib.hid (show Own (w5.alloc (.cells (mcells zeros) 5)) ga (mcells a) 5 from hA5.alloc _)
  have HG5 := Lib.hid (show Own (w5.alloc (.cells (mcells zeros) 5)) w5.heap.size (mcells (sj a (2 * N) 0)) 5 from Own.new _ _ _)
  have HB5 := Lib.hid (show Below w.heap.size w (w5.alloc (.cells (mcells zeros) 5)) from hB6.alloc hB6.size _)
  clear hR5 hS5 hA5 hB6 k0 hO3 hR3 hQ3 hA3 hB4 hR2 hO2 hA2 hP2 hB3 hO1 hR1 hBw hN3
  generalize w5.heap.size = g at *
  generalize w2.heap.size = b2 at *
  go_loopw [23] (fun v wr => ∃ k : Nat, k ≤ 2 * N ∧ v = .int .i64 (k : Int) ∧ Own wr (w.heap.size + 1) zcells 35 ∧ Own wr b2 (shc ga gp (2 * N) P) 87 ∧ Own wr ga (mcells a) 5 ∧ Own wr g (mcells (sj a (2 * N) k)) 5 ∧ Below w.heap.size w wr) (fun v _ => (2 * (N : Int) - intOf v).toNat)
  case atStart => exact ⟨0, by omega, by go_num, HR5.out, HS5.out, HA5.out, HG5.out, HB5.out⟩
  case round =>
    clear HR5 HS5 HA5 HG5 HB5
    obtain ⟨k, hk, rfl, hR, hS, hA, hG, hB⟩ := hrel
    have hsk := Lib.hid (hsl.out k)
    by_cases hlt : k < 2 * N
    · have i1 : (k : Int) < 2 * (N : Int) := by omega
      have HR := Lib.hid hR
      have HS := Lib.hid hS
      have HA := Lib.hid hA
      have HG := Lib.hid hG
      have HB := Lib.hid hB
      clear hR hS hA hG hB
      have hnl := nx_lt a (2 * N) k (by omega)
      have hnx := Lib.hid (fun w (hA : Own w ga (mcells a) 5) => nextI_any ga gp P (2 * N) k a w hal.out (by omega) hlt hA.lt hA.rdm)
      have HST := Lib.hid (show sj a (2 * N) (k + 1) = joinL (sj a (2 * N) k) (pl (2 * N : Nat) (2 * (k : Int) + 1)) (pl (2 * N : Nat) (2 * ((nx a (2 * N) k : Nat) : Int))) from rfl)
      rw [show ((2 * N : Nat) : Int) = 2 * (N : Int) by omega] at HST
      generalize nx a (2 * N) k = p at *
      have fk := Lib.hid (pl_bd (2 * (N : Int)) (2 * (k : Int) + 1) (by omega) (by omega) (by omega))
      have fm := Lib.hid (pl_bd (2 * (N : Int)) (2 * (p : Int)) (by omega) (by omega) (by omega))
      have q1 := Lib.hid (fun w => pointI_any (2 * (N : Int)) (2 * (k : Int) + 1) w (by omega) (by omega) (by omega) (by omega))
      have q2 := Lib.hid (fun w => pointI_any (2 * (N : Int)) (2 * (p : Int)) w (by omega) (by omega) (by omega) (by omega))
      have hjn := Lib.hid (fun w ho => join_any g (sj a (2 * N) k) hsk.out (pl (2 * (N : Int)) (2 * (k : Int) + 1)) (pl (2 * (N : Int)) (2 * (p : Int))) w ho fk.out.1 fk.out.2.2 fm.out.1 fm.out.2.2)
      rw [← HST.out] at hjn
      clear fk fm HST
      generalize pl (2 * (N : Int)) (2 * (k : Int) + 1) = y1 at *
      generalize pl (2 * (N : Int)) (2 * (p : Int)) = y2 at *
      go_wp2
      have z1 : IntKind.i64.wrap (2 * (k : Int)) = 2 * (k : Int) := IntWalk.i64_in _ (by omega)
      have z2 : IntKind.i64.wrap (2 * (k : Int) + 1) = 2 * (k : Int) + 1 := IntWalk.i64_in _ (by omega)
      refine wp_region_on (fun w' => Own w' (w.heap.size + 1) zcells 35 ∧ Own w' b2 (shc ga gp (2 * N) P) 87 ∧ Own w' ga (mcells a) 5 ∧ Own w' g (mcells (sj a (2 * N) k)) 5 ∧ Below w.heap.size w w') [0, 1, 2, 3, 4, 5, 6, 7, 8] [9, 10, 11] 12 (by kernel_rfl) (by kernel_rfl) ⟨HR.out.drewN 1, HS.out.drewN 1, HA.out.drewN 1, HG.out.drewN 1, Below.drewN HB.out 1⟩ ?_
      simp only [List.map_cons, List.map_nil, opN_zero, opN_succ, List.drop_succ_cons, List.drop_zero]
      clear HR HS HA HG HB
      (apply wpOn_step; · (intro wd hS K hK; clear hS; go_simp; exact hK))
      (apply wpOn_step; · (intro wd hS K hK; clear hS; go_simp; exact hK))
      (apply wpOn_step; · (intro wd hS K hK; clear hS; go_simp; exact hK))
      (apply wpOn_step; · (intro wd hS K hK; clear hS; go_simp; exact hK))
      (apply wpOn_step; · (intro wd hS K hK; clear hS; go_simp; exact hK))
      (apply wpOn_step; · (intro wd hS K hK; clear hS; go_simp; exact ⟨_, (q1.out _).mono (fun e w2 h => ⟨h.1, h.2.symm⟩), hK⟩))
      (apply wpOn_step; · (intro wd hS K hK; clear hS; go_simp; exact hK))
      (apply wpOn_step; · (intro wd hS K hK; rw [if_pos (by rfl)]; refine still_load_row 87 (.tmp 4) rfl b2 rfl 87 (shc ga gp (2 * N) P) _ hS.2.1 Try.underlying87 rfl (rowSh rfl) ?_; exact hK))
      (apply wpOn_step; · (intro wd hS K hK; clear hS; go_simp; exact hK))
      refine wpOn_nil ?_
      clear z1 z2
      intro w8 hS8
      obtain ⟨hR8, hS8', hA8, hG8, hB8⟩ := hS8
      refine wpMid_step (fun K hK => ?_)
      go_wp2_with (first
        | (go_at_call 94; ((with_reducible refine (hnx.out w8 hA8).mono ?_); rintro e w9 ⟨rfl, hB9⟩)))
      refine hK _ _ ⟨hR8.below hB9 hR8.lt, hS8'.below hB9 hS8'.lt, hA8.below hB9 hA8.lt, hG8.below hB9 hG8.lt, hB8.trans (hB9.mono hB8.size)⟩ ?_
      clear hK K
      have z3 : IntKind.i64.wrap (2 * (p : Int)) = 2 * (p : Int) := IntWalk.i64_in _ (by omega)
      have HR9 := Lib.hid (hR8.below hB9 hR8.lt)
      have HS9 := Lib.hid (hS8'.below hB9 hS8'.lt)
      have HA9 := Lib.hid (hA8.below hB9 hA8.lt)
      have HG9 := Lib.hid (hG8.below hB9 hG8.lt)
      have HB9 := Lib.hid (hB8.trans (hB9.mono hB8.size))
      clear hR8 hS8' hA8 hG8 hB8 hB9
      refine wpMid_step (fun K hK => ?_)
      go_wp2
      refine hK _ _ ⟨HR9.out, HS9.out, HA9.out, HG9.out, HB9.out⟩ ?_
      clear hK K
      refine wpMid_step (fun K hK => ?_)
      go_wp2_with (first
        | (go_at_call 93; ((with_reducible refine (q2.out _).mono ?_); rintro e w0 ⟨rfl, rfl⟩)))
      refine hK _ _ ⟨HR9.out, HS9.out, HA9.out, HG9.out, HB9.out⟩ ?_
      clear hK K
      refine wpMid_nil ?_
      clear z3
      go_wp2_with (first
        | (go_at_call 88; ((with_reducible refine (hjn.out w9 HG9.out).mono ?_); rintro e w10 ⟨rfl, hG10, hN10⟩)))
      have HR10 := Lib.hid (HR9.out.only hN10 ne1)
      have HS10 := Lib.hid (HS9.out.only hN10 ne2)
      have HA10 := Lib.hid (HA9.out.only hN10 ne3)
      have HG10 := Lib.hid hG10
      have HB10 := Lib.hid (HB9.out.trans (hN10.below.mono lg))
      clear hG10 hN10
      go_wp2
      go_roundw
      case rel => exact ⟨k + 1, by omega, by go_num, HR10.out, HS10.out, HA10.out, HG10.out, HB10.out⟩
      case measure => simp [intOf] <;> omega
    · obtain rfl : k = 2 * N := by omega
      go_wp2_with (first
        | (go_at_call 89; ((with_reducible refine (dom_any _ (sj a (2 * N) (2 * N)) hsk.out (2 * (N : Int)) _ hG).mono ?_); rintro e w3 ⟨rfl, hB3⟩))
        | (refine wpList_store_own rfl 35 _ _ rfl _ _ rfl rfl 35 _ (hR.below hB3 hR.lt) (row26 (d17 _ _ (hsk.out))) (z_eq (d17 _ _ hsk.out)) (dcells_one _ _) ?_; intro w4 hO4 hN4))
      refine bodyPost_ret (v := .tuple #[.agg (dcells (2 * (N : Int)) (sj a (2 * N) (2 * N))), .int .i64 0]) (results_row_tmp rfl _ _ _ _ _ (0, 0) _ rfl (hO4) Try.underlying35 rfl (row26 (d17 _ _ (hsk.out))) _ rfl) rfl (⟨rfl, (hB.trans (hB3.mono hB.size)).trans (hN4.below.mono (by omega))⟩)
set_option maxRecDepth 100000 in
theorem SurroundingDiagram_walk (n : Int) (ms : List Int) (hms : ms.length = 8) (w : World) (m c : Int) (rs : List Int) (hr : rs.length = 16)
    (hS : ∀ w, Calls Try.prog 22 #[.agg (dcells n ms)] w fun e w' => e = .returned (.tuple #[.agg (dcells m rs), .int .i64 c]) ∧ Below w.heap.size w w')
    (hI : ∀ w, Calls Try.prog 23 #[.agg (dcells n ms)] w fun e w' => e = .returned (.tuple #[.agg (dcells m rs), .int .i64 c]) ∧ Below w.heap.size w w') :
    Calls Try.prog 5 #[.agg (dcells n ms)] w fun e w' => e = .returned (.bool true) ∧ Below w.heap.size w w' := by
  have hl := Lib.hid hms
  have hh := Lib.hid hr
  have hS' := Lib.hid hS
  have hI' := Lib.hid hI
  clear hms hr hS hI
  go_enter Try.func5, Try.ntmps5
  go_wp2_with (first
    | (refine wpList_load_row rfl 24 _ rfl _ rfl 24 _ (0, 0) _ (Own.new w _ _) Try.underlying24 rfl (rowLP (d9 _ _ (hl.out))) ?_)
    | (go_at_call 14; ((with_reducible refine (toP_any n ms hl.out w3).mono ?_); rintro e w4 ⟨rfl, hB4⟩))
    | (go_at_call 14; ((with_reducible refine (toP_any n ms hl.out _).mono ?_); rintro e w1 ⟨rfl, hB1⟩))
    | (go_at_call 22; ((with_reducible refine (hS'.out _).mono ?_); rintro e w2 ⟨rfl, hB2⟩; have hA2 : Own w2 w.heap.size (dcells n ms) 24 := ((Own.new w _ _).below hB1 (by simp)).below hB2 (Nat.lt_of_lt_of_le (by simp) hB1.size); have b2 : Below w.heap.size w w2 := (((Below.refl w.heap.size w).alloc (Nat.le_refl _) _).trans (hB1.mono (by simp))).trans (hB2.mono (Nat.le_trans (by simp) hB1.size))))
    | (go_at_call 23; ((with_reducible refine (hI'.out _).mono ?_); rintro e w5 ⟨rfl, hB5⟩; have hO5 : Own w5 w2.heap.size (dcells m rs) 35 := (hO3.below hB4 hO3.lt).below hB5 (Nat.lt_of_lt_of_le hO3.lt hB4.size)))
    | (refine wpList_load_row rfl 24 _ rfl _ rfl 24 _ (0, 0) _ ((hA2.alloc _).only hN3 (Nat.ne_of_lt hA2.lt)) Try.underlying24 rfl (rowLP (d9 _ _ (hl.out))) ?_)
    | (refine wpList_load_row rfl 35 _ rfl _ rfl 35 _ (0, 0) _ (hO6) Try.underlying35 rfl (row26 (d17 _ _ (hh.out))) ?_)
    | (refine wpList_load_row rfl 35 _ rfl _ rfl 35 _ (0, 0) _ ((hO5.alloc _).only hN6 (Nat.ne_of_lt hO5.lt)) Try.underlying35 rfl (row26 (d17 _ _ (hh.out))) ?_)
    | (go_at_call 21; refine (eqD_same m rs hh.out _).mono ?_; rintro e w7 ⟨rfl, hB7⟩)
    | (refine wpList_store_own rfl 35 _ _ rfl _ _ rfl rfl 35 _ (Own.new w5 _ _) (row26 (d17 _ _ (hh.out))) (z_eq (d17 _ _ hh.out)) (dcells_one _ _) ?_; intro w6 hO6 hN6)
    | (refine wpList_store_own rfl 35 _ _ rfl _ _ rfl rfl 35 _ (Own.new w2 _ _) (row26 (d17 _ _ (hh.out))) (z_eq (d17 _ _ hh.out)) (dcells_one _ _) ?_; intro w3 hO3 hN3))
  go_ret
  refine ⟨rfl, ?_⟩
  have b3 : Below w.heap.size w w3 := (b2.alloc b2.size _).trans (hN3.below.mono b2.size)
  have b4 := b3.trans (hB4.mono b3.size)
  have b5 := b4.trans (hB5.mono b4.size)
  have b6 : Below w.heap.size w w6 := (b5.alloc b5.size _).trans (hN6.below.mono b5.size)
  exact b6.trans (hB7.mono b6.size)
theorem sur_law (n : Int) (ms : List Int) (hms : ms.length = 8) (hb : Bytes ms) (w : World) :
    Calls Try.prog 5 #[.agg (dcells n ms)] w fun e w' => e = .returned (.bool true) ∧ Below w.heap.size w w' := by
  cases hd : isP n ms with
  | true =>
    have hn := isP_n hd
    obtain ⟨N, rfl⟩ : ∃ N : Nat, n = N := ⟨n.toNat, by omega⟩
    by_cases hc : Crs (arZ N ms N (2 * N)) (2 * N)
    · exact SurroundingDiagram_walk N ms hms w 0 5 zeros zlen (fun w => surDS_cr N ms hms hb hd hc w (by omega) (by omega)) (fun w => surDI_cr N ms hms hd hc w (by omega) (by omega))
    · exact SurroundingDiagram_walk N ms hms w _ 0 _ (sj_len _ _ _) (fun w => surDS_ok N ms hms hb hd hc w (by omega) (by omega)) (fun w => surDI_ok N ms hms hd hc w (by omega) (by omega))
  | false => exact SurroundingDiagram_walk n ms hms w 0 1 zeros zlen (surDS_bad n ms hms hb hd) (surDI_bad n ms hms hd)
end Go.Proofs.Ytblbnlpbefmieaa
