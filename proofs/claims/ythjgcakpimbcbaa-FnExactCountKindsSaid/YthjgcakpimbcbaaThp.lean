/- The law of ThroughParts. -/
import Derived.Test.YthjgcakpimbcbaaThpM
import Derived.Test.YthjgcakpimbcbaaLawPw
import Derived.Test.YthjgcakpimbcbaaOn
namespace Go.Proofs.Ythjgcakpimbcbaa
open Go.RowKit
set_option linter.unusedVariables false
theorem zero8i : Try.prog.built 43 [] = some (icells zer8) := by kernel_rfl
theorem row66 {c : Array Value} (h : c.size = 8) : (Try.prog.info? 43).map (·.size) = some c.size := by rw [h]; kernel_rfl
theorem icells_one8 (xs : List Int) : (icells xs).all (·.oneCell') = true := by simp [icells, Value.oneCell']
theorem ic8 (xs : List Int) (h : xs.length = 8) : (icells xs).size = 8 := by rw [icells_size, h]
theorem results_row_row_tmp {P : Program} {fn : Func} {p q u : Tmp} {ty : TypeId} (h : fn.results = #[.cell p ty, .cell q ty, .tmp u]) (tmps : Array Value) (w : World) (g g2 : Nat) (t : TypeId) (cs cs2 : Array Value) (fr : Nat × Nat) (d : TypeDesc)
    (hp : tmps.getD p undef = .pointer (some ⟨g, 0, none⟩)) (hg : w.heap[g]? = some (.cells cs t fr)) (hq : tmps.getD q undef = .pointer (some ⟨g2, 0, none⟩)) (hg2 : w.heap[g2]? = some (.cells cs2 t fr))
    (hu : P.underlying ty = some d) (hd : (match d with | .struct _ | .array _ _ => true | _ => false) = true) (hi : (P.info? ty).map (·.size) = some cs.size) (hi2 : (P.info? ty).map (·.size) = some cs2.size) (v : Value) (hv : tmps.getD u undef = v) :
    (results fn tmps).run P w = .ok (.tuple #[.agg cs, .agg cs2, v]) w := by
  have e : (results fn tmps).run P w =
      ((asAddr (tmps.getD p undef)).run P w).andThen fun a w₁ => ((loadVar ty a).run P w₁).andThen fun v w₂ => ((asAddr (tmps.getD q undef)).run P w₂).andThen fun a w₃ => ((loadVar ty a).run P w₃).andThen fun v2 w₄ => .ok (.tuple #[v, v2, tmps.getD u undef]) w₄ := by
    simp only [results, h]
    simp [Sem.run_bind, Result.andThen]
  rw [e, hp, hq, hv]
  simp [asAddr, run_loadVar_row w g t ty cs fr d hg hu hd hi, run_loadVar_row w g2 t ty cs2 fr d hg2 hu hd hi2, Result.andThen]
set_option maxRecDepth 100000 in
set_option maxHeartbeats 4000000 in
theorem countsS_nat (N : Nat) (ms : List Int) (hms : ms.length = 8) (hA : Nums ms) (w : World) (h1 : 1 ≤ N) (h4 : N ≤ 4) :
    Calls Try.prog 25 #[.agg (dcells N ms)] w fun e w' => e = .returned (.tuple #[.agg (icells (upL N ms (2 * N))), .agg (icells (loL N ms (2 * N))), .int .i64 (ptL ms (2 * N))]) ∧ Below w.heap.size w w' := by
  have hl := Lib.hid hms
  have hA' := Lib.hid hA
  have hpb := Lib.hid (fun k => ptL_bd ms hA k)
  have c0 := dcells_zero N ms
  clear hms hA
  go_enter Try.func25, Try.ntmps25
  go_wp2_with (first
    | (refine wpList_build_of rfl 43 #[] rfl (icells zer8) ?_ ?_; (exact zero8i))
    | (refine wpList_store_own rfl 43 _ _ rfl _ _ rfl rfl 43 _ ((Own.at _ _ _ (by simp)).alloc _) (row66 rfl) rfl (icells_one8 _) ?_; intro w4 hO4 hN4; have hP4 : Own w4 (w.heap.size + 1 + 1 + 1 + 1) (icells zer8) 43 := (Own.at _ (icells zer8) _ (by simp)).only hN4 (by omega))
    | (refine wpList_store_own rfl 43 _ _ rfl _ _ rfl rfl 43 _ hP4 (row66 rfl) rfl (icells_one8 _) ?_; intro w5 hO5 hN5))
  have hW : Own w5 w.heap.size (dcells N ms) 38 ∧ Own w5 (w.heap.size + 1) (icells zer8) 43 ∧ Own w5 (w.heap.size + 1 + 1) (icells zer8) 43 ∧ Own w5 (w.heap.size + 1 + 1 + 1) (icells zer8) 43 ∧ Own w5 (w.heap.size + 1 + 1 + 1 + 1) (icells zer8) 43 ∧ Below w.heap.size w w5 := by
    have z8 : icells zer8 = #[.int .i64 0, .int .i64 0, .int .i64 0, .int .i64 0, .int .i64 0, .int .i64 0, .int .i64 0, .int .i64 0] := rfl
    refine ⟨(((((Own.new _ _ _).alloc _).alloc _).alloc _).alloc _ |>.only hN4 (by omega)).only hN5 (by omega), ?_, ?_, hO4.only hN5 (by omega), hO5, ?_⟩
    · rw [z8]; exact ((((Own.at _ _ _ (by simp)).alloc _).alloc _).alloc _ |>.only hN4 (by omega)).only hN5 (by omega)
    · rw [z8]; exact (((Own.at _ _ _ (by simp)).alloc _).alloc _ |>.only hN4 (by omega)).only hN5 (by omega)
    · exact ((((((Below.refl _ _).alloc (Nat.le_refl _) _).alloc (by simp) _).alloc (by simp; omega) _).alloc (by simp; omega) _).alloc (by simp; omega) _ |>.trans (hN4.below.mono (by omega))).trans (hN5.below.mono (by omega))
  clear hO4 hN4 hO5 hN5
  go_loopw [7, 8] (fun p i wr => ∃ k : Nat, k ≤ 2 * N ∧ i = .int .i64 k ∧ p = .int .i64 (ptL ms k) ∧ Own wr (w.heap.size + 1 + 1 + 1) (icells (upL N ms k)) 43 ∧ Own wr (w.heap.size + 1 + 1 + 1 + 1) (icells (loL N ms k)) 43 ∧ Own wr w.heap.size (dcells N ms) 38 ∧ Own wr (w.heap.size + 1) (icells zer8) 43 ∧ Own wr (w.heap.size + 1 + 1) (icells zer8) 43 ∧ Below w.heap.size w wr) (fun _ i _ => (2 * (N : Int) - intOf i).toNat)
  case atStart => exact ⟨0, by omega, rfl, rfl, hW.2.2.2.1, hW.2.2.2.2.1, hW.1, hW.2.1, hW.2.2.1, hW.2.2.2.2.2⟩
  case round =>
    clear hW
    obtain ⟨k, hk, rfl, rfl, hU, hL, hO, hR1, hR2, hB⟩ := hrel
    have k0 := hO.cell 0
    rw [c0] at k0
    by_cases hlt : k < 2 * N
    · have i1 : (k : Int) < 2 * (N : Int) := by omega
      have x1 := hA'.out k
      have k1' := dcells_get N ms k (by rw [hl.out]; omega)
      have k1 := hO.cell (1 + k)
      rw [k1'] at k1
      have hptb := hpb.out k
      obtain ⟨p0, p8⟩ := hptb
      have hptn := Lib.hid (show ptL ms (k + 1) = if ptL ms k < ms.getD k 0 + 1 then ms.getD k 0 + 1 else ptL ms k from rfl)
      obtain ⟨x, hye⟩ : ∃ x, ms.getD k 0 = x := ⟨_, rfl⟩
      rw [hye] at x1 k1 hptn
      obtain ⟨x0, x8⟩ := x1
      by_cases hkn : k < N
      · have j1 : (k : Int) < (N : Int) := by omega
        have hst : upL N ms (k + 1) = (upL N ms k).set x.toNat ((upL N ms k).getD x.toNat 0 + 1) := by rw [upL, hye, if_pos hkn]
        have hst2 : loL N ms (k + 1) = loL N ms k := by rw [loL, if_pos hkn]
        have q1 := hU.cell x.toNat
        rw [icells_get _ _ (by rw [upL_len]; omega)] at q1
        have q2 := hU.free x.toNat
        have hb := upL_bd N ms k x.toNat
        have hs1 := hU.set x.toNat (.int .i64 ((upL N ms k).getD x.toNat 0 + 1))
        rw [icells_set, ← hst] at hs1
        generalize (upL N ms k).getD x.toNat 0 = y at *
        obtain ⟨y0, y8⟩ := hb
        have K1 := Lib.hid hs1
        have K2 := Lib.hid (hL.other (a := ⟨(w.heap.size + 1 + 1 + 1), x.toNat, none⟩) (by simp) (.int .i64 (y + 1)))
        rw [← hst2] at K2
        have K3 := Lib.hid (hO.other (a := ⟨(w.heap.size + 1 + 1 + 1), x.toNat, none⟩) (by simp <;> omega) (.int .i64 (y + 1)))
        have K4 := Lib.hid (hR1.other (a := ⟨(w.heap.size + 1 + 1 + 1), x.toNat, none⟩) (by simp <;> omega) (.int .i64 (y + 1)))
        have K5 := Lib.hid (hR2.other (a := ⟨(w.heap.size + 1 + 1 + 1), x.toNat, none⟩) (by simp <;> omega) (.int .i64 (y + 1)))
        have K6 := Lib.hid (hB.setCell (p := ⟨(w.heap.size + 1 + 1 + 1), x.toNat, none⟩) (by simp <;> omega) (.int .i64 (y + 1)))
        have k2 := (hO.other (a := ⟨(w.heap.size + 1 + 1 + 1), x.toNat, none⟩) (by simp <;> omega) (.int .i64 (y + 1))).cell (1 + k)
        rw [k1', hye] at k2
        clear hst hst2 hs1 hU hL hO hR1 hR2 hB k1' hye
        generalize ptL ms k = q at *
        go_wp2
        go_roundw
        case rel => exact ⟨k + 1, by omega, by go_num, by rw [hptn.out], K1.out, K2.out, K3.out, K4.out, K5.out, K6.out⟩
        case measure => simp [intOf]; omega
      · have j1 : ¬ (k : Int) < (N : Int) := by omega
        have hst : loL N ms (k + 1) = (loL N ms k).set x.toNat ((loL N ms k).getD x.toNat 0 + 1) := by rw [loL, hye, if_neg hkn]
        have hst2 : upL N ms (k + 1) = upL N ms k := by rw [upL, if_neg hkn]
        have q1 := hL.cell x.toNat
        rw [icells_get _ _ (by rw [loL_len]; omega)] at q1
        have q2 := hL.free x.toNat
        have hb := loL_bd N ms k x.toNat
        have hs1 := hL.set x.toNat (.int .i64 ((loL N ms k).getD x.toNat 0 + 1))
        rw [icells_set, ← hst] at hs1
        generalize (loL N ms k).getD x.toNat 0 = y at *
        obtain ⟨y0, y8⟩ := hb
        have K1 := Lib.hid hs1
        have K2 := Lib.hid (hU.other (a := ⟨(w.heap.size + 1 + 1 + 1 + 1), x.toNat, none⟩) (by simp) (.int .i64 (y + 1)))
        rw [← hst2] at K2
        have K3 := Lib.hid (hO.other (a := ⟨(w.heap.size + 1 + 1 + 1 + 1), x.toNat, none⟩) (by simp <;> omega) (.int .i64 (y + 1)))
        have K4 := Lib.hid (hR1.other (a := ⟨(w.heap.size + 1 + 1 + 1 + 1), x.toNat, none⟩) (by simp <;> omega) (.int .i64 (y + 1)))
        have K5 := Lib.hid (hR2.other (a := ⟨(w.heap.size + 1 + 1 + 1 + 1), x.toNat, none⟩) (by simp <;> omega) (.int .i64 (y + 1)))
        have K6 := Lib.hid (hB.setCell (p := ⟨(w.heap.size + 1 + 1 + 1 + 1), x.toNat, none⟩) (by simp <;> omega) (.int .i64 (y + 1)))
        have k2 := (hO.other (a := ⟨(w.heap.size + 1 + 1 + 1 + 1), x.toNat, none⟩) (by simp <;> omega) (.int .i64 (y + 1))).cell (1 + k)
        rw [k1', hye] at k2
        clear hst hst2 hs1 hU hL hO hR1 hR2 hB k1' hye
        generalize ptL ms k = q at *
        go_wp2
        go_roundw
        case rel => exact ⟨k + 1, by omega, by go_num, by rw [hptn.out], K2.out, K1.out, K3.out, K4.out, K5.out, K6.out⟩
        case measure => simp [intOf]; omega
    · obtain rfl : k = 2 * N := by omega
      have hu8 := Lib.hid (upL_len N ms (2 * N))
      have hl8 := Lib.hid (loL_len N ms (2 * N))
      have HU := Lib.hid hU
      have HL := Lib.hid hL
      have HR1 := Lib.hid hR1
      have HR2 := Lib.hid hR2
      have HB := Lib.hid hB
      clear hU hL hO hR1 hR2 hB
      have eU := Lib.hid (show upL N ms (2 * N) = upL N ms (2 * N) from rfl)
      generalize hUe : upL N ms (2 * N) = U at *
      generalize hWe : loL N ms (2 * N) = W at *
      generalize hqe : ptL ms (2 * N) = q at *
      have HUE := Lib.hid hUe
      have HWE := Lib.hid hWe
      have HQE := Lib.hid hqe
      clear hUe hWe hqe eU
      go_wp2
      refine wp_region_facts (by kernel_rfl) (by kernel_rfl) (fun a w1 => ∃ x4 x46 x47 x48 : Value, a = ⟨List.toArray [.agg (dcells N ms), .pointer (some ⟨w.heap.size, 0, none⟩), .pointer (some ⟨w.heap.size + 1, 0, none⟩), .pointer (some ⟨w.heap.size + 1 + 1, 0, none⟩), x4, .pointer (some ⟨w.heap.size + 1 + 1 + 1, 0, none⟩), .pointer (some ⟨w.heap.size + 1 + 1 + 1 + 1, 0, none⟩), .int .i64 q, .int .i64 ((2 * N : Nat) : Int), .agg (icells zer8), .agg (icells zer8), .int .i64 ((2 * N : Nat) : Int), .pointer (some ⟨w.heap.size, 0, none⟩), .int .i64 (N : Int), .int .i64 (2 * (N : Int)), .bool false, u16, u17, u18, u19, u20, u21, u22, u23, u24, u25, u26, u27, u28, u29, u30, u31, u32, u33, u34, u35, u36, u37, u38, u39, u40, u41, u42, u43, u44, u45, x46, x47, x48], []⟩ ∧ Own w1 (w.heap.size + 1 + 1 + 1) (icells U) 43 ∧ Own w1 (w.heap.size + 1 + 1 + 1 + 1) (icells W) 43 ∧ (∃ c1 : Array Value, c1.size = 8 ∧ Own w1 (w.heap.size + 1) c1 43) ∧ (∃ c2 : Array Value, c2.size = 8 ∧ Own w1 (w.heap.size + 1 + 1) c2 43) ∧ Below w.heap.size w w1) (fun j a w1 => match j with | 0 => sl a 46 = .agg (icells U) | 1 => sl a 47 = .agg (icells W) | 2 => sl a 48 = .int .i64 q | 3 => Own w1 (w.heap.size + 1) (icells U) 43 | 4 => Own w1 (w.heap.size + 1 + 1) (icells W) 43 | 5 => sl a 4 = .int .i64 q | _ => True) ⟨_, _, _, _, rfl, HU.out.drewN 1, HL.out.drewN 1, ⟨_, rfl, HR1.out.drewN 1⟩, ⟨_, rfl, HR2.out.drewN 1⟩, Below.drewN HB.out 1⟩ ?_ ?_
      · refine (AllOps.cons ?_ (AllOps.cons ?_ (AllOps.cons ?_ (AllOps.cons ?_ (AllOps.cons ?_ (AllOps.cons ?_ AllOps.nil))))))
        · rintro a w0 ⟨x4, x46, x47, x48, rfl, g1, g2, ⟨c1, z1, g3⟩, ⟨c2, z2, g4⟩, g5⟩ hd K hK
          go_wp2_with (first | (refine wpList_load_row rfl 43 _ rfl _ rfl 43 _ (0, 0) _ g1 Try.underlying43 rfl (row66 (ic8 _ hu8.out)) ?_))
          refine hK _ _ ⟨_, _, _, _, rfl, g1, g2, ⟨c1, z1, g3⟩, ⟨c2, z2, g4⟩, g5⟩ rfl ?_
          rintro (_|_|_|_|_|_|_) hj hn h <;> first | exact h | exact absurd rfl hj | exact waits_no hn (by kernel_rfl)
        · rintro a w0 ⟨x4, x46, x47, x48, rfl, g1, g2, ⟨c1, z1, g3⟩, ⟨c2, z2, g4⟩, g5⟩ hd K hK
          go_wp2_with (first | (refine wpList_load_row rfl 43 _ rfl _ rfl 43 _ (0, 0) _ g2 Try.underlying43 rfl (row66 (ic8 _ hl8.out)) ?_))
          refine hK _ _ ⟨_, _, _, _, rfl, g1, g2, ⟨c1, z1, g3⟩, ⟨c2, z2, g4⟩, g5⟩ rfl ?_
          rintro (_|_|_|_|_|_|_) hj hn h <;> first | exact h | exact absurd rfl hj | exact waits_no hn (by kernel_rfl)
        · rintro a w0 ⟨x4, x46, x47, x48, rfl, g1, g2, ⟨c1, z1, g3⟩, ⟨c2, z2, g4⟩, g5⟩ hd K hK
          go_wp2
          refine hK _ _ ⟨_, _, _, _, rfl, g1, g2, ⟨c1, z1, g3⟩, ⟨c2, z2, g4⟩, g5⟩ rfl ?_
          rintro (_|_|_|_|_|_|_) hj hn h <;> first | exact h | exact absurd rfl hj | exact waits_no hn (by kernel_rfl)
        · rintro a w0 ⟨x4, x46, x47, x48, rfl, g1, g2, ⟨c1, z1, g3⟩, ⟨c2, z2, g4⟩, g5⟩ hd K hK
          have d0 : x46 = _ := hd 0 (by kernel_rfl)
          subst d0
          go_wp2_with (first | (refine wpList_store_own rfl 43 _ _ rfl _ _ rfl rfl 43 _ g3 (row66 (ic8 _ hu8.out)) (by rw [ic8 _ hu8.out, z1]) (icells_one8 _) ?_; intro w8 hO8 hN8))
          refine hK _ _ ⟨_, _, _, _, rfl, g1.only hN8 (by omega), g2.only hN8 (by omega), ⟨_, ic8 _ hu8.out, hO8⟩, ⟨c2, z2, g4.only hN8 (by omega)⟩, g5.trans (hN8.below.mono (by omega))⟩ hO8 ?_
          rintro (_|_|_|_|_|_|_) hj hn h <;> first | exact h | exact absurd rfl hj | exact Own.only h hN8 (by omega) | exact waits_no hn (by kernel_rfl)
        · rintro a w0 ⟨x4, x46, x47, x48, rfl, g1, g2, ⟨c1, z1, g3⟩, ⟨c2, z2, g4⟩, g5⟩ hd K hK
          have d0 : x47 = _ := hd 1 (by kernel_rfl)
          subst d0
          go_wp2_with (first | (refine wpList_store_own rfl 43 _ _ rfl _ _ rfl rfl 43 _ g4 (row66 (ic8 _ hl8.out)) (by rw [ic8 _ hl8.out, z2]) (icells_one8 _) ?_; intro w8 hO8 hN8))
          refine hK _ _ ⟨_, _, _, _, rfl, g1.only hN8 (by omega), g2.only hN8 (by omega), ⟨c1, z1, g3.only hN8 (by omega)⟩, ⟨_, ic8 _ hl8.out, hO8⟩, g5.trans (hN8.below.mono (by omega))⟩ hO8 ?_
          rintro (_|_|_|_|_|_|_) hj hn h <;> first | exact h | exact absurd rfl hj | exact Own.only h hN8 (by omega) | exact waits_no hn (by kernel_rfl)
        · rintro a w0 ⟨x4, x46, x47, x48, rfl, g1, g2, ⟨c1, z1, g3⟩, ⟨c2, z2, g4⟩, g5⟩ hd K hK
          have d0 : x48 = _ := hd 2 (by kernel_rfl)
          subst d0
          go_wp2
          refine hK _ _ ⟨_, _, _, _, rfl, g1, g2, ⟨c1, z1, g3⟩, ⟨c2, z2, g4⟩, g5⟩ rfl ?_
          rintro (_|_|_|_|_|_|_) hj hn h <;> first | exact h | exact absurd rfl hj | exact waits_no hn (by kernel_rfl)
      · rintro a w1 ⟨x4, x46, x47, x48, rfl, g1, g2, _, _, g5⟩ hF
        have e4 : x4 = _ := hF 5 (by decide)
        have hO8 := hF 3 (by decide)
        have hO9 := hF 4 (by decide)
        subst e4
        go_wp2
        refine bodyPost_ret (v := .tuple #[.agg (icells U), .agg (icells W), .int .i64 q]) (results_row_row_tmp rfl _ _ _ _ _ _ _ (0, 0) _ rfl hO8 rfl hO9 Try.underlying43 rfl (row66 (ic8 _ hu8.out)) (row66 (ic8 _ hl8.out)) _ rfl) rfl ⟨by rw [HUE.out, HWE.out, HQE.out], g5⟩
end Go.Proofs.Ythjgcakpimbcbaa
