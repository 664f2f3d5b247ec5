/- The law of FlipPartition. -/
import Derived.Test.YtblbnlpbefmieaaPun
import Derived.Test.YtblbnlpbefmieaaCatB
namespace Go.Proofs.Ytblbnlpbefmieaa
open Go.RowKit
set_option linter.unusedVariables false
theorem isP_n {n : Int} {ms : List Int} (h : isP n ms = true) : 1 ≤ n ∧ n ≤ 4 := by
  unfold isP at h
  rw [Bool.and_eq_true, decide_eq_true_iff] at h
  exact h.1
/-- The program's marks of a flip. -/
def fmk (N : Nat) (ms : List Int) : List Int := (ms.drop N).take N ++ ms.take N
theorem fmk_len (N : Nat) (ms : List Int) (hms : ms.length = 8) (h4 : N ≤ 4) : (fmk N ms).length = 2 * N := by simp [fmk]; omega
/-- The model's labels of the first k points of a flip. -/
def flb (N : Nat) (ms : List Int) (k : Nat) : List Int := (List.range k).map (fun j : Nat => ms.getD ((j + N) % (2 * N)) 0)
theorem flb_len (N : Nat) (ms : List Int) (k : Nat) : (flb N ms k).length = k := by simp [flb]
theorem flb_step (N : Nat) (ms : List Int) (k : Nat) : flb N ms (k + 1) = flb N ms k ++ [ms.getD ((k + N) % (2 * N)) 0] := by simp [flb, List.range_succ]
theorem flb_end (N : Nat) (ms : List Int) (hms : ms.length = 8) (h1 : 1 ≤ N) (h4 : N ≤ 4) : flb N ms (2 * N) = fmk N ms := by
  obtain ⟨a0, a1, a2, a3, a4, a5, a6, a7, rfl⟩ := list8 ms hms
  have h : N = 1 ∨ N = 2 ∨ N = 3 ∨ N = 4 := by omega
  rcases h with rfl | rfl | rfl | rfl <;> rfl
/-- The numbers of a flip's parts. -/
def flipP (n : Int) (ms : List Int) : List Int := told (fmk n.toNat ms)
theorem flipP_len (n : Int) (ms : List Int) (hms : ms.length = 8) (h4 : n ≤ 4) : (flipP n ms).length = 8 := told_len _ (by rw [fmk_len _ _ hms (by omega)]; omega)
theorem sl8lh (b N : Nat) (h1 : 1 ≤ N) (h4 : N ≤ 4) : ∀ w : World, (Instr.sliceAt 22 (.pointer (some ⟨b, 1, none⟩)) (some (.int .i64 (N : Int))) (some (.int .i64 (2 * (N : Int)))) none).run Try.prog w = .ok (.slice (some ⟨b, 1 + N, none⟩) N (8 - N)) w := by
  have h : N = 1 ∨ N = 2 ∨ N = 3 ∨ N = 4 := by omega
  clear h1 h4
  rcases h with rfl | rfl | rfl | rfl <;> (intro w; kernel_rfl)
theorem sl8h (b N : Nat) (h1 : 1 ≤ N) (h4 : N ≤ 4) : ∀ w : World, (Instr.sliceAt 22 (.pointer (some ⟨b, 1, none⟩)) none (some (.int .i64 (N : Int))) none).run Try.prog w = .ok (.slice (some ⟨b, 1, none⟩) N 8) w := by
  have h : N = 1 ∨ N = 2 ∨ N = 3 ∨ N = 4 := by omega
  clear h1 h4
  rcases h with rfl | rfl | rfl | rfl <;> (intro w; kernel_rfl)
theorem Own.rdA {w : World} {b : Nat} {n : Int} {ms : List Int} {t : TypeId} (h : Own w b (dcells n ms) t) (i N : Nat) (hN : i + N ≤ ms.length) : RdA w ⟨b, 1 + i, none⟩ ((ms.drop i).take N) := by
  intro j hj
  rw [Addr.add_mid]
  exact h.rdP i N hN j hj
theorem cat2B (a1 a2 : Addr) (c1 c2 l1 l2 : Nat) (xs ys : List Int) (w : World) (h1 : RdA w a1 xs) (h2 : RdA w a2 ys) (e1 : xs.length = l1) (e2 : ys.length = l2) (hl : l1 + l2 ≤ 900000) :
    Calls Try.prog 114 #[.slice (some ⟨w.heap.size, 0, none⟩) 2 2] (w.alloc (.cells #[.slice (some a1) l1 c1, .slice (some a2) l2 c2] 50)) fun e w' => (∃ v, e = .returned v ∧ RowB w' (w.heap.size + 1) v (xs ++ ys)) ∧ Below (w.heap.size + 1) (w.alloc (.cells #[.slice (some a1) l1 c1, .slice (some a2) l2 c2] 50)) w' := by
  subst e1 e2
  have h := catB_any w.heap.size 2 [(a1, c1, xs), (a2, c2, ys)] _ (Own.new w (prtcB [(a1, c1, xs), (a2, c2, ys)]) 50) (by
      intro q hq
      simp at hq
      rcases hq with rfl | rfl
      · exact h1.below ((Below.refl _ _).alloc (Nat.le_refl _) _)
      · exact h2.below ((Below.refl _ _).alloc (Nat.le_refl _) _)) (by simp [catLB]; omega) (by simp)
  have hcv : catLB [(a1, c1, xs), (a2, c2, ys)] = xs ++ ys := by simp [catLB]
  have hcell : prtcB [(a1, c1, xs), (a2, c2, ys)] = #[.slice (some a1) xs.length c1, .slice (some a2) ys.length c2] := by simp [prtcB, prtVB]
  have hsz : (w.alloc (.cells #[.slice (some a1) xs.length c1, .slice (some a2) ys.length c2] 50)).heap.size = w.heap.size + 1 := by simp
  rw [hcell, hcv, hsz] at h
  exact h
set_option maxRecDepth 100000 in
set_option maxHeartbeats 1000000 in
theorem flipPI_nat (N : Nat) (ms : List Int) (hms : ms.length = 8) (hd : isP N ms = true) (w : World) (h1 : 1 ≤ N) (h4 : N ≤ 4) :
    Calls Try.prog 47 #[.agg (dcells N ms)] w fun e w' => e = .returned (.tuple #[.agg (dcells N (flipP N ms)), .int .i64 0]) ∧ Below w.heap.size w w' := by
  have hl := Lib.hid hms
  have hc := Lib.hid (fun w => isPI_any N ms hms w)
  rw [hd] at hc
  have c0 := dcells_zero N ms
  have hs1 := sl8lh w.heap.size N h1 h4
  have hs2 := sl8h w.heap.size N h1 h4
  have hwr : IntKind.i64.wrap (2 * (N : Int)) = 2 * (N : Int) := IntWalk.i64_in _ (by omega)
  have hp1 := Lib.hid (fmk_len N ms hms h4)
  have hU := Lib.hid (show told (fmk N ms) = flipP N ms by unfold flipP; simp)
  have hUl := Lib.hid (flipP_len (N : Int) ms hms (by omega))
  have hcat := Lib.hid (fun wd (hO : Own wd w.heap.size (dcells N ms) 28) => cat2B ⟨w.heap.size, 1 + N, none⟩ ⟨w.heap.size, 1, none⟩ (8 - N) 8 N N ((ms.drop N).take N) (ms.take N) wd (hO.rdA N N (by omega)) (by have := hO.rdA 0 N (by omega); simpa using this) (by simp; omega) (by simp; omega) (by omega))
  have hpom := Lib.hid (fun wx g cap (hI : Bys wx (w.heap.size + 1) g cap (fmk N ms)) => pomB_any g 0 cap (2 * N) (N : Int) (fmk N ms) wx hp1.out (by omega) (by omega) hI.lt (fun j hj => by rw [Nat.zero_add]; exact hI.cell j hj))
  have hne := Lib.hid (show fmk N ms ≠ [] from fun e => by have := hp1.out; rw [e] at this; simp at this; omega)
  clear hms hd
  go_enter Try.func47, Try.ntmps47
  go_wp2_with (first
    | (refine wpList_load_row rfl 28 _ rfl _ rfl 28 _ (0, 0) _ ((Own.new _ _ _).alloc _) Try.underlying28 rfl (rowP (d9 _ _ (hl.out))) ?_)
    | (go_at_call 45; ((with_reducible refine (hc.out _).mono ?_); rintro e w1 ⟨rfl, hB1⟩; have hO1 : Own w1 w.heap.size (dcells N ms) 28 := ((Own.new _ _ _).alloc _).below hB1 (by simp <;> omega); have hR1 : Own w1 (w.heap.size + 1) zp 28 := (Own.at _ _ _ (by simp)).below hB1 (by simp); have hBw : Below w.heap.size w w1 := (((Below.refl w.heap.size w).alloc (Nat.le_refl _) _).alloc (by simp) _).trans (hB1.mono (by simp <;> omega)); have k0 := hO1.cell 0; rw [c0] at k0; clear hB1)))
  refine wp_region_on (fun w' => Own w' w.heap.size (dcells N ms) 28 ∧ Own w' (w.heap.size + 1) zp 28 ∧ Below w.heap.size w w') [0, 1, 2, 3, 4, 5, 6, 7] [] 8 (by kernel_rfl) (by kernel_rfl) ⟨hO1.drewN 1, hR1.drewN 1, Below.drewN hBw 1⟩ ?_
  simp only [List.map_cons, List.map_nil, opN_zero, opN_succ, List.drop_succ_cons, List.drop_zero]
  clear k0 hO1 hR1 hBw
  (apply wpOn_step; · (intro wd hS K hK; clear hS; go_simp; exact hK))
  (apply wpOn_step; · (intro wd hS K hK; clear hS; go_simp; exact hK))
  (apply wpOn_step; · (intro wd hS K hK; clear hS; go_simp; exact hK))
  (apply wpOn_step; · (intro wd hS K hK; clear hS; go_simp; exact hK))
  (apply wpOn_step; · (intro wd hS K hK; clear hS; go_simp; exact hK))
  (apply wpOn_step; · (intro wd hS K hK; clear hS; go_simp; exact hK))
  (apply wpOn_step; · (intro wd hS K hK; clear hS; go_simp; exact hK))
  (apply wpOn_step; · (intro wd hS K hK; clear hS; go_simp; exact hK))
  refine wpOn_nil ?_
  intro w8 hS8
  obtain ⟨hO8, hR8, hB8⟩ := hS8
  refine wpMid_nil ?_
  have hs8 := hB8.size
  go_wp2_with (first
    | (go_at_call 114; ((with_reducible refine (hcat.out w8 hO8).mono ?_); rintro e w9 ⟨⟨v, rfl, hv⟩, hB9⟩; have b9 : Below w.heap.size w w9 := (hB8.alloc hs8 _).trans (hB9.mono (by omega)); have hR9 : Own w9 (w.heap.size + 1) zp 28 := (hR8.alloc _).below hB9 (Nat.lt_succ_of_lt hR8.lt); have hv2 : RowB w9 (w8.heap.size + 1) v (fmk N ms) := hv; obtain ⟨g, cap, rfl, hI⟩ := hv2.mn hne.out; have hI' : Bys w9 (w.heap.size + 1) g cap (fmk N ms) := ⟨Nat.le_trans (Nat.le_of_lt (Nat.lt_succ_of_lt hR8.lt)) hI.1, hI.2⟩; unfold bval; rw [hp1.out]))
    | (go_at_call 109; ((with_reducible refine (hpom.out _ _ _ hI').mono ?_); rintro e w2 ⟨rfl, hB2⟩))
    | (refine wpList_store_own rfl 28 _ _ rfl _ _ rfl rfl 28 _ (hR9.below hB2 hR9.lt) (rowP (d9 _ _ (by rw [hU.out]; exact hUl.out))) (z_eq8 (d9 _ _ (by rw [hU.out]; exact hUl.out))) (dcells_one _ _) ?_; intro w3 hO3 hN3))
  have hO4 : Own w3 (w.heap.size + 1) (dcells N (flipP N ms)) 28 := by rw [← hU.out]; exact hO3
  refine bodyPost_ret (v := .tuple #[.agg (dcells N (flipP N ms)), .int .i64 0]) (results_row_tmp rfl _ _ _ _ _ (0, 0) _ rfl (hO4) Try.underlying28 rfl (rowP (d9 _ _ (hUl.out))) _ rfl) rfl (⟨rfl, (b9.trans (hB2.mono b9.size)).trans (hN3.below.mono (by omega))⟩)
set_option maxRecDepth 100000 in
theorem flipPI_bad (n : Int) (ms : List Int) (hms : ms.length = 8) (hd : isP n ms = false) (w : World) :
    Calls Try.prog 47 #[.agg (dcells n ms)] w fun e w' => e = .returned (.tuple #[.agg zp, .int .i64 1]) ∧ Below w.heap.size w w' := by
  have hl := Lib.hid hms
  have hc := Lib.hid (fun w => isPI_any n ms hms w)
  rw [hd] at hc
  clear hms hd
  go_enter Try.func47, Try.ntmps47
  go_wp2_with (first
    | (refine wpList_load_row rfl 28 _ rfl _ rfl 28 _ (0, 0) _ ((Own.new _ _ _).alloc _) Try.underlying28 rfl (rowP (d9 _ _ (hl.out))) ?_)
    | (go_at_call 45; ((with_reducible refine (hc.out _).mono ?_); rintro e w1 ⟨rfl, hB1⟩; have hR1 : Own w1 (w.heap.size + 1) zp 28 := (Own.at _ _ _ (by simp)).below hB1 (by simp); have hBw : Below w.heap.size w w1 := (((Below.refl w.heap.size w).alloc (Nat.le_refl _) _).alloc (by simp) _).trans (hB1.mono (by simp <;> omega)); clear hB1))
    | (refine wpList_build_of rfl 28 #[] rfl zp ?_ ?_; (exact builtP0))
    | (refine wpList_store_own rfl 28 _ _ rfl _ _ rfl rfl 28 _ (hR1) (rowP (d9 _ _ (zlen8))) (rfl) (dcells_one _ _) ?_; intro w4 hO4 hN4))
  refine bodyPost_ret (v := .tuple #[.agg (zp), .int .i64 1]) (results_row_tmp rfl _ _ _ _ _ (0, 0) _ rfl (hO4) Try.underlying28 rfl (rowP (d9 _ _ (zlen8))) _ rfl) rfl (⟨rfl, hBw.trans (hN4.below.mono (by omega))⟩)
set_option maxRecDepth 100000 in
theorem flipPS_bad (n : Int) (ms : List Int) (hms : ms.length = 8) (hb : Bytes ms) (hd : isP n ms = false) (w : World) :
    Calls Try.prog 53 #[.agg (dcells n ms)] w fun e w' => e = .returned (.tuple #[.agg zp, .int .i64 1]) ∧ Below w.heap.size w w' := by
  have hl := Lib.hid hms
  have hc := Lib.hid (fun w => isPS_any n ms hms hb w)
  rw [hd] at hc
  clear hms hb hd
  go_enter Try.func53, Try.ntmps53
  go_wp2_with (first
    | (refine wpList_load_row rfl 28 _ rfl _ rfl 28 _ (0, 0) _ ((Own.new _ _ _).alloc _) Try.underlying28 rfl (rowP (d9 _ _ (hl.out))) ?_)
    | (go_at_call 79; ((with_reducible refine (hc.out _).mono ?_); rintro e w1 ⟨rfl, hB1⟩; have hR1 : Own w1 (w.heap.size + 1) zp 28 := (Own.at _ _ _ (by simp)).below hB1 (by simp); have hBw : Below w.heap.size w w1 := (((Below.refl w.heap.size w).alloc (Nat.le_refl _) _).alloc (by simp) _).trans (hB1.mono (by simp <;> omega)); clear hB1))
    | (refine wpList_build_of rfl 28 #[] rfl zp ?_ ?_; (exact builtP0))
    | (refine wpList_store_own rfl 28 _ _ rfl _ _ rfl rfl 28 _ (hR1) (rowP (d9 _ _ (zlen8))) (rfl) (dcells_one _ _) ?_; intro w4 hO4 hN4))
  refine bodyPost_ret (v := .tuple #[.agg (zp), .int .i64 1]) (results_row_tmp rfl _ _ _ _ _ (0, 0) _ rfl (hO4) Try.underlying28 rfl (rowP (d9 _ _ (zlen8))) _ rfl) rfl (⟨rfl, hBw.trans (hN4.below.mono (by omega))⟩)
set_option maxRecDepth 100000 in
set_option maxHeartbeats 1000000 in
theorem flipPS_nat (N : Nat) (ms : List Int) (hms : ms.length = 8) (hb : Bytes ms) (hd : isP N ms = true) (w : World) (h1 : 1 ≤ N) (h4 : N ≤ 4) :
    Calls Try.prog 53 #[.agg (dcells N ms)] w fun e w' => e = .returned (.tuple #[.agg (dcells N (flipP N ms)), .int .i64 0]) ∧ Below w.heap.size w w' := by
  have hl := Lib.hid hms
  have hbb := Lib.hid hb
  have hc := Lib.hid (fun w => isPS_any N ms hms hb w)
  rw [hd] at hc
  have hmk := mkE7
  have c0 := dcells_zero N ms
  have hpom := Lib.hid (fun wx base g cap (hI : Ints wx base g cap (flb N ms (2 * N))) => toldS_any g 0 cap (2 * N) (N : Int) (flb N ms (2 * N)) wx (flb_len N ms _) (by omega) (by omega) hI.lt hI.rdf)
  have hU := Lib.hid (show told (flb N ms (2 * N)) = flipP N ms by unfold flipP; rw [flb_end N ms hms h1 h4]; simp)
  have hUl := Lib.hid (flipP_len (N : Int) ms hms (by omega))
  clear hms hb hd
  go_enter Try.func53, Try.ntmps53
  go_wp2_with (first
    | (refine wpList_load_row rfl 28 _ rfl _ rfl 28 _ (0, 0) _ ((Own.new _ _ _).alloc _) Try.underlying28 rfl (rowP (d9 _ _ (hl.out))) ?_)
    | (go_at_call 79; ((with_reducible refine (hc.out _).mono ?_); rintro e w1 ⟨rfl, hB1⟩; have hO1 : Own w1 w.heap.size (dcells N ms) 28 := ((Own.new _ _ _).alloc _).below hB1 (by simp <;> omega); have hR1 : Own w1 (w.heap.size + 1) zp 28 := (Own.at _ _ _ (by simp)).below hB1 (by simp); have hBw : Below w.heap.size w w1 := (((Below.refl w.heap.size w).alloc (Nat.le_refl _) _).alloc (by simp) _).trans (hB1.mono (by simp <;> omega)); clear hB1)))
  clear hmk
  go_loopw [4, 5] (fun v i wr => ∃ k g cap : Nat, k ≤ 2 * N ∧ i = .int .i64 k ∧ v = .slice (some ⟨g, 0, none⟩) k cap ∧ Ints wr (w.heap.size + 2) g cap (flb N ms k) ∧ Own wr w.heap.size (dcells N ms) 28 ∧ Own wr (w.heap.size + 1) zp 28 ∧ Below w.heap.size w wr) (fun _ i _ => (2 * (N : Int) - intOf i).toNat)
  case atStart => exact ⟨0, _, _, by omega, rfl, rfl, Ints.new _ _ _ _ hR1.lt rfl (by decide) #[] rfl, hO1.alloc _, hR1.alloc _, hBw.alloc hBw.size _⟩
  case round =>
    clear hO1 hR1 hBw
    obtain ⟨k, g, cap, hk, rfl, rfl, hI, hO, hR, hB⟩ := hrel
    have hs := hB.size
    have hcl := Lib.hid (flb_len N ms k)
    have k0 := hO.cell 0
    rw [c0] at k0
    by_cases hlt : k < 2 * N
    · have hst := Lib.hid (flb_step N ms k)
      have i1 : (k : Int) < 2 * (N : Int) := by omega
      obtain ⟨p, hp⟩ : ∃ p : Int, ((k : Int) + (N : Int)) % (2 * (N : Int)) = p := ⟨_, rfl⟩
      have hpc : (((k + N) % (2 * N) : Nat) : Int) = p := by rw [← hp, Int.natCast_emod]; simp
      have hpn : (k + N) % (2 * N) = p.toNat := by rw [← hpc]; rfl
      clear hpc
      have hp0 : 0 ≤ p := by rw [← hp]; exact Int.emod_nonneg _ (by omega)
      have hp2 : p < 2 * (N : Int) := by rw [← hp]; exact Int.emod_lt_of_pos _ (by omega)
      have hp8 : p < 8 := by omega
      rw [hpn] at hst
      have c1 := hO.cell (1 + p.toNat)
      rw [dcells_get _ _ _ (by rw [hl.out]; omega)] at c1
      have hx := hbb.out.get p.toNat
      obtain ⟨x, hxe⟩ : ∃ x, ms.getD p.toNat 0 = x := ⟨_, rfl⟩
      rw [hxe] at c1 hx hst
      obtain ⟨hx0, hx1⟩ := hx
      clear hpn hxe
      go_wp2_with (first
        | (refine wpList_append_ints rfl (.tmp 18) (.tmp 31) rfl (w.heap.size + 2) g cap (flb N ms k) x (by rw [ival, hcl.out]; rfl) (hI.alloc _) ⟨wr.heap.size, 0, none⟩ 1 rfl ((Own.new _ _ _).cell 0) (by rw [hcl.out]; omega) (by simp; have := hI.lt; have := hI.1; omega) ?_; intro g2 cap2 w2 hI2 hG2))
      have hO2 := (hO.alloc _).grown hG2 (by have := hI.1; omega)
      have hR2 := (hR.alloc _).grown hG2 (by have := hI.1; omega)
      have hB2 : Below w.heap.size w w2 := (hB.alloc hs _).grown hG2 (by simp; omega) (fun k e => by have := hI.1; simp at e; omega)
      rw [← hst.out] at hI2
      clear hO hR hB hI hG2
      go_wp2
      go_roundw
      case rel => exact ⟨k + 1, g2, cap2, by omega, by go_num, by simp [ival, hcl.out], hI2, hO2, hR2, hB2⟩
      case measure => simp [intOf]; omega
    · obtain rfl : k = 2 * N := by omega
      go_wp2_with (first
        | (go_at_call 120; ((with_reducible refine (hpom.out _ _ _ _ hI).mono ?_); rintro e w2 ⟨rfl, hB2⟩))
        | (refine wpList_store_own rfl 28 _ _ rfl _ _ rfl rfl 28 _ (hR.below hB2 hR.lt) (rowP (d9 _ _ (by rw [hU.out]; exact hUl.out))) (z_eq8 (d9 _ _ (by rw [hU.out]; exact hUl.out))) (dcells_one _ _) ?_; intro w3 hO3 hN3))
      have hO4 : Own w3 (w.heap.size + 1) (dcells N (flipP N ms)) 28 := by rw [← hU.out]; exact hO3
      refine bodyPost_ret (v := .tuple #[.agg (dcells N (flipP N ms)), .int .i64 0]) (results_row_tmp rfl _ _ _ _ _ (0, 0) _ rfl (hO4) Try.underlying28 rfl (rowP (d9 _ _ (hUl.out))) _ rfl) rfl (⟨rfl, (hB.trans (hB2.mono hB.size)).trans (hN3.below.mono (by omega))⟩)
end Go.Proofs.Ytblbnlpbefmieaa
