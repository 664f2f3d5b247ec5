/- The law of UnitPartition. -/
import Derived.Test.YtblbnlpbefmieaaPtS
import Derived.Test.YtblbnlpbefmieaaSl
import Derived.Test.YtblbnlpbefmieaaIntsAt
namespace Go.Proofs.Ytblbnlpbefmieaa
open Go.RowKit
set_option linter.unusedVariables false
/-- The program's marks of the unit behind k points. -/
def umk (N k : Nat) : List Int := (List.range (2 * N)).map (fun j => if j < k then (j : Int) else if N ≤ j ∧ j < N + k then (j : Int) - N else 0)
theorem umk_len (N k : Nat) : (umk N k).length = 2 * N := by simp [umk]
theorem umk_step : ∀ N, N ≤ 4 → ∀ k, k < N → ((umk N k).set k (k : Int)).set (N + k) (k : Int) = umk N (k + 1) := by decide
theorem umk_zero : ∀ N, N ≤ 4 → umk N 0 = List.replicate (2 * N) 0 := by decide
/-- The model's labels of the first k points of the unit. -/
def ulb (N k : Nat) : List Int := (List.range k).map (fun j : Nat => (j : Int) % (N : Int))
theorem ulb_len (N k : Nat) : (ulb N k).length = k := by simp [ulb]
theorem ulb_step (N k : Nat) : ulb N (k + 1) = ulb N k ++ [(k : Int) % N] := by simp [ulb, List.range_succ]
theorem ulb_end : ∀ N, N ≤ 4 → ulb N (2 * N) = umk N N := by decide
/-- The numbers of the unit's parts. -/
def unitP (n : Int) : List Int := told (umk n.toNat n.toNat)
theorem unitP_len (n : Int) (h4 : n ≤ 4) : (unitP n).length = 8 := told_len _ (by rw [umk_len]; omega)
theorem Own.rdI {w : World} {b : Nat} {xs : List Int} {t : TypeId} (h : Own w b (icells xs) t) : Rdf (Value.int .i64) w b 0 xs := by
  intro j hj
  rw [Nat.zero_add, h.cell, icells_get _ _ hj]
theorem Ints.rdf {w : World} {base g cap : Nat} {xs : List Int} (h : Ints w base g cap xs) : Rdf (Value.int .i64) w g 0 xs := by
  intro j hj
  rw [Nat.zero_add]; exact h.cell j hj
set_option maxRecDepth 100000 in
set_option maxHeartbeats 1000000 in
theorem unitPI_ok (N : Nat) (w : World) (h1 : 1 ≤ N) (h4 : N ≤ 4) :
    Calls Try.prog 48 #[.int .i64 (N : Int)] w fun e w' => e = .returned (.tuple #[.agg (dcells N (unitP N)), .int .i64 0]) ∧ Below w.heap.size w w' := by
  have hmk := makeI (2 * N) (by omega)
  have e2 : (((2 * N : Nat)) : Int) = 2 * (N : Int) := by omega
  rw [e2] at hmk
  have hz := Lib.hid (umk_zero N h4)
  have hst := Lib.hid (umk_step N h4)
  have hpom := Lib.hid (fun wx b cp (hO : Own wx b (icells (umk N N)) 2) => pomI_any b 0 cp (2 * N) (N : Int) (umk N N) wx (umk_len N N) (by omega) (by omega) hO.lt hO.rdI)
  have hU := Lib.hid (show told (umk N N) = unitP N by unfold unitP; simp)
  have hUl := Lib.hid (unitP_len (N : Int) (by omega))
  clear e2
  go_enter Try.func48, Try.ntmps48
  go_wp2_with (first
    | (go_at_call 99; ((with_reducible refine (isHt_t _ _ (by omega) (by omega)).mono ?_); rintro e w0 ⟨rfl, rfl⟩)))
  clear hmk
  go_loopw [14] (fun i wr => ∃ k : Nat, k ≤ N ∧ i = .int .i64 k ∧ Own wr (w.heap.size + 1) (icells (umk N k)) 2 ∧ Own wr w.heap.size zp 28 ∧ Below w.heap.size w wr) (fun i _ => ((N : Int) - intOf i).toNat)
  case atStart => exact ⟨0, by omega, rfl, by rw [hz.out]; exact Own.at _ _ _ (by simp), (Own.new _ _ _).alloc _, ((Below.refl _ _).alloc (Nat.le_refl _) _).alloc (by simp) _⟩
  case round =>
    obtain ⟨k, hk, rfl, hO, hR, hB⟩ := hrel
    by_cases hlt : k < N
    · have hul := Lib.hid (umk_len N k)
      have c1 := hO.cell k
      rw [icells_get _ _ (by rw [hul.out]; omega)] at c1
      have c2 := (hO.set k (.int .i64 (k : Int))).cell (N + k)
      rw [icells_set, icells_get _ _ (by rw [List.length_set, hul.out]; omega)] at c2
      have f1 := hO.free k
      have f2 := (hO.set k (.int .i64 (k : Int))).free (N + k)
      have K0 := (hO.set k (.int .i64 (k : Int))).set (N + k) (.int .i64 (k : Int))
      rw [icells_set, icells_set, hst.out k hlt] at K0
      have K1 := Lib.hid K0
      have K2 := Lib.hid ((hR.other (a := ⟨w.heap.size + 1, k, none⟩) (by simp) (.int .i64 (k : Int))).other (a := ⟨w.heap.size + 1, N + k, none⟩) (by simp) (.int .i64 (k : Int)))
      have K3 := Lib.hid ((hB.setCell (p := ⟨w.heap.size + 1, k, none⟩) (by simp) (.int .i64 (k : Int))).setCell (p := ⟨w.heap.size + 1, N + k, none⟩) (by simp) (.int .i64 (k : Int)))
      have i1 : (k : Int) < (N : Int) := by omega
      clear K0 hO hR hB
      generalize (umk N k).getD k 0 = x at *
      generalize ((umk N k).set k (k : Int)).getD (N + k) 0 = y at *
      go_wp2
      go_roundw
      case rel => exact ⟨k + 1, by omega, by go_num, K1.out, K2.out, K3.out⟩
      case measure => simp [intOf]; omega
    · obtain rfl : k = N := by omega
      go_wp2_with (first
        | (go_at_call 115; ((with_reducible refine (hpom.out _ _ _ hO).mono ?_); rintro e w2 ⟨rfl, hB2⟩))
        | (refine wpList_store_own rfl 28 _ _ rfl _ _ rfl rfl 28 _ (hR.below hB2 hR.lt) (rowP (d9 _ _ (by rw [hU.out]; exact hUl.out))) (z_eq8 (d9 _ _ (by rw [hU.out]; exact hUl.out))) (dcells_one _ _) ?_; intro w3 hO3 hN3))
      have hO4 : Own w3 w.heap.size (dcells k (unitP k)) 28 := by rw [← hU.out]; exact hO3
      refine bodyPost_ret (v := .tuple #[.agg (dcells k (unitP k)), .int .i64 0]) (results_row_tmp rfl _ _ _ _ _ (0, 0) _ rfl (hO4) Try.underlying28 rfl (rowP (d9 _ _ (hUl.out))) _ rfl) rfl (⟨rfl, (hB.trans (hB2.mono hB.size)).trans (hN3.below.mono (by omega))⟩)
set_option maxRecDepth 100000 in
theorem unitPI_bad (n : Int) (w : World) (h : n < 1 ∨ 4 < n) :
    Calls Try.prog 48 #[.int .i64 n] w fun e w' => e = .returned (.tuple #[.agg zp, .int .i64 2]) ∧ Below w.heap.size w w' := by
  have hh := Lib.hid h
  clear h
  go_enter Try.func48, Try.ntmps48
  go_wp2_with (first
    | (go_at_call 99; ((with_reducible refine (isHt_f _ _ hh.out).mono ?_); rintro e w0 ⟨rfl, rfl⟩))
    | (refine wpList_build_of rfl 28 #[] rfl zp ?_ ?_; (exact builtP0))
    | (refine wpList_store_own rfl 28 _ _ rfl _ _ rfl rfl 28 _ (Own.new w _ _) (rowP (d9 _ _ (zlen8))) (rfl) (dcells_one _ _) ?_; intro w3 hO3 hN3))
  refine bodyPost_ret (v := .tuple #[.agg (zp), .int .i64 2]) (results_row_tmp rfl _ _ _ _ _ (0, 0) _ rfl (hO3) Try.underlying28 rfl (rowP (d9 _ _ (zlen8))) _ rfl) rfl (⟨rfl, ((Below.refl _ _).alloc (Nat.le_refl _) _).trans (hN3.below.mono (Nat.le_refl _))⟩)
set_option maxRecDepth 100000 in
theorem unitPS_bad (n : Int) (w : World) (h : n < 1 ∨ 4 < n) :
    Calls Try.prog 78 #[.int .i64 n] w fun e w' => e = .returned (.tuple #[.agg zp, .int .i64 2]) ∧ Below w.heap.size w w' := by
  have hh := Lib.hid h
  clear h
  go_enter Try.func78, Try.ntmps78
  go_wp2_with (first
    | (go_at_call 95; ((with_reducible refine (inS_f _ _ _ _ hh.out).mono ?_); rintro e w0 ⟨rfl, rfl⟩))
    | (refine wpList_build_of rfl 28 #[] rfl zp ?_ ?_; (exact builtP0))
    | (refine wpList_store_own rfl 28 _ _ rfl _ _ rfl rfl 28 _ (Own.new w _ _) (rowP (d9 _ _ (zlen8))) (rfl) (dcells_one _ _) ?_; intro w3 hO3 hN3))
  refine bodyPost_ret (v := .tuple #[.agg (zp), .int .i64 2]) (results_row_tmp rfl _ _ _ _ _ (0, 0) _ rfl (hO3) Try.underlying28 rfl (rowP (d9 _ _ (zlen8))) _ rfl) rfl (⟨rfl, ((Below.refl _ _).alloc (Nat.le_refl _) _).trans (hN3.below.mono (Nat.le_refl _))⟩)
theorem mkE7 : ∀ w : World, (Instr.buildSlice 45 0 #[]).run Try.prog w = .ok (.slice (some ⟨w.heap.size, 0, none⟩) 0 0) (w.alloc (.cells #[] 2)) := by
  intro w; kernel_rfl
set_option maxRecDepth 100000 in
set_option maxHeartbeats 1000000 in
theorem oneS_any (N : Nat) (w : World) (h1 : 1 ≤ N) (h4 : N ≤ 4) :
    Calls Try.prog 133 #[.int .i64 (N : Int)] w fun e w' => e = .returned (.agg (dcells N (unitP N))) ∧ Below w.heap.size w w' := by
  have hmk := mkE7
  have hpom := Lib.hid (fun wx base g cap (hI : Ints wx base g cap (ulb N (2 * N))) => toldS_any g 0 cap (2 * N) (N : Int) (ulb N (2 * N)) wx (ulb_len N _) (by omega) (by omega) hI.lt hI.rdf)
  have hU := Lib.hid (show told (ulb N (2 * N)) = unitP N by unfold unitP; rw [ulb_end N h4]; simp)
  have hUl := Lib.hid (unitP_len (N : Int) (by omega))
  go_enter Try.func133, Try.ntmps133
  go_wp2
  clear hmk
  go_loopw [3, 4] (fun v i wr => ∃ k g cap : Nat, k ≤ 2 * N ∧ i = .int .i64 k ∧ v = .slice (some ⟨g, 0, none⟩) k cap ∧ Ints wr (w.heap.size + 1) g cap (ulb N k) ∧ Own wr w.heap.size zp 28 ∧ Below w.heap.size w wr) (fun _ i _ => (2 * (N : Int) - intOf i).toNat)
  case atStart => exact ⟨0, _, _, by omega, rfl, rfl, Ints.new _ _ _ _ (by simp) (by simp) (by decide) #[] rfl, (Own.new _ _ _).alloc _, ((Below.refl _ _).alloc (Nat.le_refl _) _).alloc (by simp) _⟩
  case round =>
    obtain ⟨k, g, cap, hk, rfl, rfl, hI, hR, hB⟩ := hrel
    have hs := hB.size
    have hcl := Lib.hid (ulb_len N k)
    by_cases hlt : k < 2 * N
    · have hst := Lib.hid (ulb_step N k)
      have i1 : (k : Int) < 2 * (N : Int) := by omega
      obtain ⟨m, hm⟩ : ∃ m, (k : Int) % N = m := ⟨_, rfl⟩
      have HM := Lib.hid hm
      go_wp2_with (first
        | (refine wpList_append_ints rfl (.tmp 12) (.tmp 16) rfl (w.heap.size + 1) g cap (ulb N k) m (by rw [ival, hcl.out]; rfl) (hI.alloc _) ⟨wr.heap.size, 0, none⟩ 1 rfl ((Own.new _ _ _).cell 0) (by rw [hcl.out]; omega) (by simp; have := hI.lt; have := hI.1; omega) ?_; intro g2 cap2 w2 hI2 hG2))
      have hR2 := (hR.alloc _).grown hG2 (by have := hI.1; omega)
      have hB2 : Below w.heap.size w w2 := (hB.alloc hs _).grown hG2 (by simp; omega) (fun k e => by have := hI.1; simp at e; omega)
      rw [← HM.out, ← hst.out] at hI2
      clear hR hB hI hG2
      go_wp2
      go_roundw
      case rel => exact ⟨k + 1, g2, cap2, by omega, by go_num, by simp [ival, hcl.out], hI2, hR2, hB2⟩
      case measure => simp [intOf]; omega
    · obtain rfl : k = 2 * N := by omega
      go_wp2_with (first
        | (go_at_call 120; ((with_reducible refine (hpom.out _ _ _ _ hI).mono ?_); rintro e w2 ⟨rfl, hB2⟩))
        | (refine wpList_store_own rfl 28 _ _ rfl _ _ rfl rfl 28 _ (hR.below hB2 hR.lt) (rowP (d9 _ _ (by rw [hU.out]; exact hUl.out))) (z_eq8 (d9 _ _ (by rw [hU.out]; exact hUl.out))) (dcells_one _ _) ?_; intro w3 hO3 hN3))
      have hO4 : Own w3 w.heap.size (dcells N (unitP N)) 28 := by rw [← hU.out]; exact hO3
      refine bodyPost_ret (v := .agg (dcells N (unitP N))) (results_cell_row rfl _ _ _ _ _ (0, 0) _ rfl (hO4) Try.underlying28 rfl (rowP (d9 _ _ (hUl.out)))) rfl (⟨rfl, (hB.trans (hB2.mono hB.size)).trans (hN3.below.mono (by omega))⟩)
set_option maxRecDepth 100000 in
theorem unitPS_ok (N : Nat) (w : World) (h1 : 1 ≤ N) (h4 : N ≤ 4) :
    Calls Try.prog 78 #[.int .i64 (N : Int)] w fun e w' => e = .returned (.tuple #[.agg (dcells N (unitP N)), .int .i64 0]) ∧ Below w.heap.size w w' := by
  have hc := Lib.hid (fun w => oneS_any N w h1 h4)
  have hUl := Lib.hid (unitP_len (N : Int) (by omega))
  go_enter Try.func78, Try.ntmps78
  go_wp2_with (first
    | (go_at_call 95; ((with_reducible refine (inS_t _ _ _ _ (by omega) (by omega)).mono ?_); rintro e w0 ⟨rfl, rfl⟩))
    | (go_at_call 133; ((with_reducible refine (hc.out _).mono ?_); rintro e w2 ⟨rfl, hB2⟩))
    | (refine wpList_store_own rfl 28 _ _ rfl _ _ rfl rfl 28 _ ((Own.new w _ _).below hB2 (by simp)) (rowP (d9 _ _ (hUl.out))) (z_eq8 (d9 _ _ hUl.out)) (dcells_one _ _) ?_; intro w3 hO3 hN3))
  have b0 : Below w.heap.size w (w.alloc (.cells zp 28)) := (Below.refl _ _).alloc (Nat.le_refl _) _
  refine bodyPost_ret (v := .tuple #[.agg (dcells N (unitP N)), .int .i64 0]) (results_row_tmp rfl _ _ _ _ _ (0, 0) _ rfl (hO3) Try.underlying28 rfl (rowP (d9 _ _ (hUl.out))) _ rfl) rfl (⟨rfl, (b0.trans (hB2.mono b0.size)).trans (hN3.below.mono (Nat.le_refl _))⟩)
end Go.Proofs.Ytblbnlpbefmieaa
