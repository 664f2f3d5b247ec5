/- The law of ThroughParts. -/
import Derived.Test.YtblbnlpbefmieaaThp
namespace Go.Proofs.Ytblbnlpbefmieaa
open Go.RowKit
set_option linter.unusedVariables false
theorem thC_step (N : Nat) (ms : List Int) (v : Nat) : thC N ms (v + 1) = if 0 < (upL N ms (2 * N)).getD v 0 ∧ 0 < (loL N ms (2 * N)).getD v 0 then thC N ms v + 1 else thC N ms v := rfl
set_option maxRecDepth 100000 in
set_option maxHeartbeats 4000000 in
theorem thrS_nat (N : Nat) (ms : List Int) (hms : ms.length = 8) (hb : Bytes ms) (hd : isP N ms = true) (w : World) (h1 : 1 ≤ N) (h4 : N ≤ 4) :
    Calls Try.prog 76 #[.agg (dcells N ms)] w fun e w' => e = .returned (.tuple #[.int .i64 (thC N ms (parN ms N)), .int .i64 0]) ∧ Below w.heap.size w w' := by
  have hl := Lib.hid hms
  have hnum := isP_nums hms hd
  have hc := Lib.hid (fun w => isPS_any N ms hms hb w)
  rw [hd] at hc
  have hct := Lib.hid (fun w => countsS_nat N ms hms hnum w h1 h4)
  obtain ⟨P, hP⟩ : ∃ P, parN ms N = P := ⟨_, rfl⟩
  have hpt := pt_par ms N h1 hnum
  have hpb := par_bd ms N h1 hnum hms h4
  rw [hP] at hpt hpb
  rw [hpt] at hct
  have hst := Lib.hid (thC_step N ms)
  have hub := Lib.hid (fun i => upL_bd N ms (2 * N) i)
  have hlb := Lib.hid (fun i => loL_bd N ms (2 * N) i)
  have hu8 := Lib.hid (upL_len N ms (2 * N))
  have hl8 := Lib.hid (loL_len N ms (2 * N))
  have htb := Lib.hid (fun v => thC_bd N ms v)
  have hz := Lib.hid (show thC N ms 0 = 0 from rfl)
  rw [hP]
  obtain ⟨p1, p8, _⟩ := hpb
  generalize upL N ms (2 * N) = U at *
  generalize loL N ms (2 * N) = W at *
  clear hms hb hd hnum hP hpt
  go_enter Try.func76, Try.ntmps76
  go_wp2_with (first
    | (refine wpList_load_row rfl 28 _ rfl _ rfl 28 _ (0, 0) _ (Own.new _ _ _) Try.underlying28 rfl (rowP (d9 _ _ (hl.out))) ?_)
    | (go_at_call 79; ((with_reducible refine (hc.out _).mono ?_); rintro e w1 ⟨rfl, hB1⟩; have hO1 : Own w1 w.heap.size (dcells N ms) 28 := (Own.new _ _ _).below hB1 (by simp); have hBw : Below w.heap.size w w1 := ((Below.refl w.heap.size w).alloc (Nat.le_refl _) _).trans (hB1.mono (by simp)); clear hB1))
    | (refine wpList_load_row rfl 28 _ rfl _ rfl 28 _ (0, 0) _ (hO1) Try.underlying28 rfl (rowP (d9 _ _ (hl.out))) ?_)
    | (go_at_call 132; ((with_reducible refine (hct.out _).mono ?_); rintro e w2 ⟨rfl, hB2⟩; have hB3 : Below w.heap.size w w2 := hBw.trans (hB2.mono hBw.size); have hs2 := hB3.size; clear hB2))
    | (refine wpList_store_own rfl 129 _ _ rfl _ _ rfl rfl 129 _ ((Own.new w2 (icells zer8) 129).alloc _) (row66 (ic8 _ hu8.out)) (by rw [ic8 _ hu8.out]; rfl) (icells_one8 _) ?_; intro w4 hO4 hN4; have hP4 : Own w4 (w2.heap.size + 1) (icells zer8) 129 := (Own.at _ (icells zer8) _ (by simp)).only hN4 (by omega))
    | (refine wpList_store_own rfl 129 _ _ rfl _ _ rfl rfl 129 _ hP4 (row66 (ic8 _ hl8.out)) (by rw [ic8 _ hl8.out]; rfl) (icells_one8 _) ?_; intro w5 hO5 hN5))
  have hU5 := Lib.hid (hO4.only hN5 (by omega))
  have hL5 := Lib.hid hO5
  have hB5 := Lib.hid (show Below w.heap.size w w5 from (((hB3.alloc hs2 _).alloc (by simp; omega) _).trans (hN4.below.mono (by omega))).trans (hN5.below.mono (by omega)))
  clear hO4 hN4 hP4 hO5 hN5 hB3
  go_loopw [7, 8] (fun c i wr => ∃ k : Nat, k ≤ P ∧ i = .int .i64 k ∧ c = .int .i64 (thC N ms k) ∧ w5 = wr) (fun _ i _ => ((P : Int) - intOf i).toNat)
  case atStart => exact ⟨0, by omega, rfl, by rw [hz.out], rfl⟩
  case round =>
    obtain ⟨k, hk, rfl, rfl, rfl⟩ := hrel
    have htk := htb.out k
    obtain ⟨t0, t8⟩ := htk
    by_cases hlt : k < P
    · have i1 : (k : Int) < (P : Int) := by omega
      have i2 : (k : Int) < 8 := by omega
      have c1 := hU5.out.cell k
      rw [icells_get _ _ (by rw [hu8.out]; omega)] at c1
      have c2 := hL5.out.cell k
      rw [icells_get _ _ (by rw [hl8.out]; omega)] at c2
      have hs := hst.out k
      generalize U.getD k 0 = x at *
      generalize W.getD k 0 = y at *
      by_cases hx : 0 < x
      · by_cases hy : 0 < y
        · rw [if_pos ⟨hx, hy⟩] at hs
          have HS := Lib.hid hs
          clear hs
          generalize thC N ms k = t at *
          go_wp2
          go_roundw
          case rel => exact ⟨k + 1, by omega, by go_num, by rw [HS.out], trivial⟩
          case measure => simp [intOf]; omega
        · rw [if_neg (fun h => hy h.2)] at hs
          have HS := Lib.hid hs
          clear hs
          generalize thC N ms k = t at *
          go_wp2
          go_roundw
          case rel => exact ⟨k + 1, by omega, by go_num, by rw [HS.out], trivial⟩
          case measure => simp [intOf]; omega
      · rw [if_neg (fun h => hx h.1)] at hs
        have HS := Lib.hid hs
        clear hs
        generalize thC N ms k = t at *
        go_wp2
        go_roundw
        case rel => exact ⟨k + 1, by omega, by go_num, by rw [HS.out], trivial⟩
        case measure => simp [intOf]; omega
    · obtain rfl : k = P := by omega
      go_wp2
      go_ret2
      exact ⟨rfl, hB5.out⟩
set_option maxRecDepth 100000 in
theorem thrS_bad (n : Int) (ms : List Int) (hms : ms.length = 8) (hb : Bytes ms) (hd : isP n ms = false) (w : World) :
    Calls Try.prog 76 #[.agg (dcells n ms)] w fun e w' => e = .returned (.tuple #[.int .i64 0, .int .i64 1]) ∧ Below w.heap.size w w' := by
  have hl := Lib.hid hms
  have hc := Lib.hid (fun w => isPS_any n ms hms hb w)
  rw [hd] at hc
  clear hms hb hd
  go_enter Try.func76, Try.ntmps76
  go_wp2_with (first
    | (refine wpList_load_row rfl 28 _ rfl _ rfl 28 _ (0, 0) _ (Own.new _ _ _) Try.underlying28 rfl (rowP (d9 _ _ (hl.out))) ?_)
    | (go_at_call 79; ((with_reducible refine (hc.out _).mono ?_); rintro e w1 ⟨rfl, hB1⟩)))
  go_ret2
  exact ⟨rfl, ((Below.refl _ _).alloc (Nat.le_refl _) _).trans (hB1.mono (by simp))⟩
set_option maxRecDepth 100000 in
theorem thrI_bad (n : Int) (ms : List Int) (hms : ms.length = 8) (hd : isP n ms = false) (w : World) :
    Calls Try.prog 68 #[.agg (dcells n ms)] w fun e w' => e = .returned (.tuple #[.int .i64 0, .int .i64 1]) ∧ Below w.heap.size w w' := by
  have hl := Lib.hid hms
  have hc := Lib.hid (fun w => isPI_any n ms hms w)
  rw [hd] at hc
  clear hms hd
  go_enter Try.func68, Try.ntmps68
  go_wp2_with (first
    | (refine wpList_load_row rfl 28 _ rfl _ rfl 28 _ (0, 0) _ (Own.new _ _ _) Try.underlying28 rfl (rowP (d9 _ _ (hl.out))) ?_)
    | (go_at_call 45; ((with_reducible refine (hc.out _).mono ?_); rintro e w1 ⟨rfl, hB1⟩)))
  go_ret2
  exact ⟨rfl, ((Below.refl _ _).alloc (Nat.le_refl _) _).trans (hB1.mono (by simp))⟩
/-- The cells of two numbers. -/
def pcs (x y : Int) : Array Value := #[.int .i64 x, .int .i64 y]
theorem rowSd {c : Array Value} (h : c.size = 2) : (Try.prog.info? 126).map (·.size) = some c.size := by rw [h]; kernel_rfl
set_option maxRecDepth 100000 in
theorem goThru_any (x y : Int) (w : World) :
    Calls Try.prog 129 #[.agg (pcs x y)] w fun e w' => e = .returned (.bool (decide (0 < x ∧ 0 < y))) ∧ Below w.heap.size w w' := by
  have c0 := (Own.new w (pcs x y) 126).cell 0
  have c1 := (Own.new w (pcs x y) 126).cell 1
  rw [show (pcs x y)[0]? = some (.int .i64 x) from rfl] at c0
  rw [show (pcs x y)[1]? = some (.int .i64 y) from rfl] at c1
  go_enter Try.func129, Try.ntmps129
  go_wp2
  · go_ret
    exact ⟨by simp_all, (Below.refl _ _).alloc (Nat.le_refl _) _⟩
  · go_ret
    exact ⟨by simp_all <;> omega, (Below.refl _ _).alloc (Nat.le_refl _) _⟩
theorem sd_range {w : World} {g : Nat} {xs : List Int} {t : TypeId} (h : Own w g (icells xs) t) (i : Nat) (hi : i * 2 + 1 < xs.length) : w.rangeAt g (i * 2) [.int .i64 (xs.getD (i * 2) 0), .int .i64 (xs.getD (i * 2 + 1) 0)] := by
  intro j v hj
  match j, hj with
  | 0, hj => simp at hj; subst hj; rw [Nat.add_zero, h.cell, icells_get _ _ (by omega)]; simp [List.getD_eq_getElem?_getD]
  | 1, hj => simp at hj; subst hj; rw [h.cell, icells_get _ _ (by omega)]; simp [List.getD_eq_getElem?_getD]
  | j + 2, hj => simp at hj
theorem fieldSh1 (p q : Option Addr) (l c m d : Nat) : ∀ w : World, (Instr.field 87 (.agg #[.slice p l c, .slice q m d]) 1).run Try.prog w = .ok (.slice q m d) w := by
  intro w; kernel_rfl
set_option maxRecDepth 100000 in
set_option maxHeartbeats 4000000 in
theorem thrI_nat (N : Nat) (ms : List Int) (hms : ms.length = 8) (hd : isP N ms = true) (w : World) (h1 : 1 ≤ N) (h4 : N ≤ 4) :
    Calls Try.prog 68 #[.agg (dcells N ms)] w fun e w' => e = .returned (.tuple #[.int .i64 (thC N ms (parN ms N)), .int .i64 0]) ∧ Below w.heap.size w w' := by
  have hl := Lib.hid hms
  have hnum := isP_nums hms hd
  have hc := Lib.hid (fun w => isPI_any N ms hms w)
  rw [hd] at hc
  have hsh := Lib.hid (fun w => shapeOf_nat N ms hms hnum w h1 h4)
  have hpb := par_bd ms N h1 hnum hms h4
  have hsd := Lib.hid (fun v hv => sd_up N (parN ms N) ms hnum (2 * N) hpb.2.2 hpb.2.1 v hv)
  have hzl := Lib.hid (sdZ_len N (parN ms N) ms (2 * N))
  obtain ⟨P, hP⟩ : ∃ P, parN ms N = P := ⟨_, rfl⟩
  rw [hP] at hpb hsh hsd hzl
  have hst := Lib.hid (thC_step N ms)
  have htb := Lib.hid (fun v => thC_bd N ms v)
  have hz := Lib.hid (show thC N ms 0 = 0 from rfl)
  rw [hP]
  obtain ⟨p1, p8, _⟩ := hpb
  have hgt := Lib.hid goThru_any
  generalize sdZ N P ms (2 * N) = Z at *
  have hfs := fieldSh1
  clear hms hd hnum hP
  go_enter Try.func68, Try.ntmps68
  go_wp2_with (first
    | (refine wpList_load_row rfl 28 _ rfl _ rfl 28 _ (0, 0) _ (Own.new _ _ _) Try.underlying28 rfl (rowP (d9 _ _ (hl.out))) ?_)
    | (go_at_call 45; ((with_reducible refine (hc.out _).mono ?_); rintro e w1 ⟨rfl, hB1⟩; have hO1 : Own w1 w.heap.size (dcells N ms) 28 := (Own.new _ _ _).below hB1 (by simp); have hBw : Below w.heap.size w w1 := ((Below.refl w.heap.size w).alloc (Nat.le_refl _) _).trans (hB1.mono (by simp)); clear hB1))
    | (refine wpList_load_row rfl 28 _ rfl _ rfl 28 _ (0, 0) _ (hO1) Try.underlying28 rfl (rowP (d9 _ _ (hl.out))) ?_)
    | (go_at_call 84; ((with_reducible refine (hsh.out _).mono ?_); rintro e w2 ⟨ga, gp, rfl, hga, hgp, hA2, hP2, hB2⟩; have hB3 : Below w.heap.size w w2 := hBw.trans (hB2.mono hBw.size); clear hB2 hA2)))
  have hlp := hP2.lt
  go_loopw [4, 14] (fun c i wr => ∃ k : Nat, k ≤ P ∧ i = .int .i64 k ∧ c = .int .i64 (thC N ms k) ∧ Own wr gp (icells Z) 126 ∧ Below w.heap.size w wr ∧ gp < wr.heap.size) (fun _ i _ => ((P : Int) - intOf i).toNat)
  case atStart => exact ⟨0, by omega, rfl, by rw [hz.out], hP2, hB3, hlp⟩
  case round =>
    clear hP2 hB3 hlp
    obtain ⟨k, hk, rfl, rfl, hP, hB, hlp⟩ := hrel
    have htk := htb.out k
    obtain ⟨t0, t8⟩ := htk
    by_cases hlt : k < P
    · have i1 : (k : Int) < (P : Int) := by omega
      have hrg := sd_range hP k (by rw [hzl.out]; omega)
      have hs := hst.out k
      have hsk := hsd.out k hlt
      rw [← hsk.1, ← hsk.2] at hs
      clear hsk
      generalize Z.getD (k * 2) 0 = x at *
      generalize Z.getD (k * 2 + 1) 0 = y at *
      have hHP := Lib.hid hP
      have hHB := Lib.hid hB
      by_cases hxy : 0 < x ∧ 0 < y
      · have hg := Lib.hid (fun w => hgt.out x y w)
        rw [decide_eq_true hxy] at hg
        rw [if_pos hxy] at hs
        have HS := Lib.hid hs
        clear hs hxy hP hB
        generalize thC N ms k = t at *
        go_wp2_with (first
          | (refine wpList_load_mid rfl 126 _ rfl gp (k * 2) (by first | rfl | simp) _ _ hrg Try.underlying126 rfl (rowSd (c := pcs x y) rfl) ?_)
          | (refine wpList_store_own rfl 126 _ _ rfl _ (pcs x y) rfl rfl 126 _ (Own.new wr (pcs 0 0) 126) (rowSd rfl) rfl (by simp [pcs, Value.oneCell']) ?_; intro w4 hO4 hN4)
          | (refine wpList_load_row rfl 126 _ rfl _ rfl 126 _ (0, 0) _ hO4 Try.underlying126 rfl (rowSd (c := pcs x y) rfl) ?_)
          | (go_at_call 129; ((with_reducible refine (hg.out _).mono ?_); rintro e w5 ⟨rfl, hB5⟩; have b4 : Below wr.heap.size wr w4 := ((Below.refl _ _).alloc (Nat.le_refl _) _).trans (hN4.below.mono (Nat.le_refl _)); have b5 : Below wr.heap.size wr w5 := b4.trans (hB5.mono b4.size); have hP5 := hHP.out.below b5 hlp; have hB6 := hHB.out.trans (b5.mono hHB.out.size); have hl5 := hP5.lt; clear hB5 b4 b5 hN4)))
        go_roundw
        case rel => exact ⟨k + 1, by omega, by go_num, by rw [HS.out], hP5, hB6, hl5⟩
        case measure => simp [intOf]; omega
      · have hg := Lib.hid (fun w => hgt.out x y w)
        rw [decide_eq_false hxy] at hg
        rw [if_neg hxy] at hs
        have HS := Lib.hid hs
        clear hs hxy hP hB
        generalize thC N ms k = t at *
        go_wp2_with (first
          | (refine wpList_load_mid rfl 126 _ rfl gp (k * 2) (by first | rfl | simp) _ _ hrg Try.underlying126 rfl (rowSd (c := pcs x y) rfl) ?_)
          | (refine wpList_store_own rfl 126 _ _ rfl _ (pcs x y) rfl rfl 126 _ (Own.new wr (pcs 0 0) 126) (rowSd rfl) rfl (by simp [pcs, Value.oneCell']) ?_; intro w4 hO4 hN4)
          | (refine wpList_load_row rfl 126 _ rfl _ rfl 126 _ (0, 0) _ hO4 Try.underlying126 rfl (rowSd (c := pcs x y) rfl) ?_)
          | (go_at_call 129; ((with_reducible refine (hg.out _).mono ?_); rintro e w5 ⟨rfl, hB5⟩; have b4 : Below wr.heap.size wr w4 := ((Below.refl _ _).alloc (Nat.le_refl _) _).trans (hN4.below.mono (Nat.le_refl _)); have b5 : Below wr.heap.size wr w5 := b4.trans (hB5.mono b4.size); have hP5 := hHP.out.below b5 hlp; have hB6 := hHB.out.trans (b5.mono hHB.out.size); have hl5 := hP5.lt; clear hB5 b4 b5 hN4)))
        go_roundw
        case rel => exact ⟨k + 1, by omega, by go_num, by rw [HS.out], hP5, hB6, hl5⟩
        case measure => simp [intOf]; omega
    · obtain rfl : k = P := by omega
      go_wp2
      go_ret2
      exact ⟨rfl, hB⟩
end Go.Proofs.Ytblbnlpbefmieaa
