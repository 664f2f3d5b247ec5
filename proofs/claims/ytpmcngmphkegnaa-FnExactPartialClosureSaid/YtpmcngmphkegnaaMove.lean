/- Contracts of the program's moving of diagrams, whatever function leads the points. -/
import Derived.Test.YtpmcngmphkegnaaMoveL
namespace Go.Proofs.Ytpmcngmphkegnaa
open Go.RowKit
set_option maxRecDepth 100000 in
set_option maxHeartbeats 1000000 in
theorem moveD_ok (K : Nat) (cap : Array Value) (S : World → Prop) (f : Int → Int) (n : Int) (ms : List Int) (hms : ms.length = 16) (hb : Bytes ms) (hd : isD n ms = true) (w : World)
    (hE : ∀ (args : Array Value) (w : World), (callFunc K args).run Try.prog w = .ok (.enter K args) w) (hS : ∀ g, w.heap.size ≤ g → ∀ u u', S u → Most g u u' → S u')
    (hK : ∀ w i, S w → 0 ≤ i → i < 2 * n → Calls Try.prog K (#[.int .i64 i] ++ cap) w fun e w' => e = .returned (.int .i64 (f i)) ∧ w' = w)
    (hf : ∀ i, 0 ≤ i → i < 2 * n → 0 ≤ f i ∧ f i < 16) (hw : S w) :
    Calls Try.prog 105 #[.agg (dcells n ms), .func (.func K) #[] cap] w fun e w' => e = .returned (.tuple #[.agg (dcells n (mvL f ms zeros (2 * n).toNat)), .int .i64 0]) ∧ Below w.heap.size w w' := by
  have hl := Lib.hid hms
  have hIs := (isD_iff n ms hms hb).1 hd
  have hc := Lib.hid (fun w => isI_any n ms hms hb w)
  rw [hd] at hc
  have hml := Lib.hid (mvL_len f ms zeros zlen (2 * n).toNat)
  have hmv := Lib.hid (fun (g : Nat) (hg : w.heap.size ≤ g) (u : World) (hu : S u) (ho : Own u g (mcells zeros) 5) => moveLines_any K cap S f g n ms zeros hms hb hIs zlen hE (hS g hg) hK hf u hu ho)
  have HS := Lib.hid hS
  have c0 := dcells_zero n ms
  obtain ⟨R, hR⟩ : ∃ R, mvL f ms zeros (2 * n).toNat = R := ⟨_, rfl⟩
  rw [hR] at hmv hml ⊢
  clear hms hb hd hE hS hK hf hIs hR
  go_enter Try.func105, Try.ntmps105
  go_wp2_with (first
    | (refine wpList_load_row rfl 68 _ rfl _ rfl 68 _ (0, 0) _ ((Own.new _ _ _).alloc _) Try.underlying68 rfl (row26 (d17 _ _ (hl.out))) ?_)
    | (go_at_call 99; ((with_reducible refine (hc.out _).mono ?_); rintro e w1 ⟨rfl, hB1⟩; have hO1 : Own w1 w.heap.size (dcells n ms) 68 := ((Own.new _ _ _).alloc _).below hB1 (by simp <;> omega); have hR1 : Own w1 (w.heap.size + 1) zcells 68 := (Own.at _ _ _ (by simp)).below hB1 (by simp); have hBw : Below w.heap.size w w1 := (((Below.refl w.heap.size w).alloc (Nat.le_refl _) _).alloc (by simp) _).trans (hB1.mono (by simp <;> omega)); clear hB1))
    | (go_at_call 108; ((with_reducible refine (newMates_any _).mono ?_); rintro e w0 ⟨rfl, rfl⟩))
    | (refine wpList_load_row rfl 68 _ rfl _ rfl 68 _ (0, 0) _ (hO1.alloc _) Try.underlying68 rfl (row26 (d17 _ _ (hl.out))) ?_)
    | (go_at_call 113; ((with_reducible refine (hmv.out w1.heap.size hBw.size _ (HS.out _ (Nat.le_refl _) w _ hw (most_of_below (hBw.alloc hBw.size _))) (Own.new _ _ _)).mono ?_); rintro e w2 ⟨rfl, hS2, hG2, hM2⟩; have hO2 := (hO1.alloc _).most hM2 (Nat.ne_of_lt hO1.lt); have hR2 := (hR1.alloc _).most hM2 (Nat.ne_of_lt hR1.lt); have k0 := (hO2.cell 0).trans c0; have hBw2 : Below w.heap.size w w2 := (hBw.alloc hBw.size _).trans (hM2.below (Nat.le_trans hBw.size (by simp)) hBw.size)))
    | (go_at_call 110; ((with_reducible refine (dom_any _ R hml.out n _ hG2).mono ?_); rintro e w3 ⟨rfl, hB3⟩))
    | (refine wpList_store_own rfl 68 _ _ rfl _ _ rfl rfl 68 _ (hR2.below hB3 hR2.lt) (row26 (d17 _ _ (hml.out))) (z_eq (d17 _ _ hml.out)) (dcells_one _ _) ?_; intro w4 hO4 hN4))
  refine bodyPost_ret (v := .tuple #[.agg (dcells n R), .int .i64 0]) (results_row_tmp rfl _ _ _ _ _ (0, 0) _ rfl (hO4) Try.underlying68 rfl (row26 (d17 _ _ (hml.out))) _ rfl) rfl (⟨rfl, (hBw2.trans (hB3.mono hBw2.size)).trans (hN4.below.mono (by omega))⟩)
set_option maxRecDepth 100000 in
theorem moveD_bad (F : Value) (n : Int) (ms : List Int) (hms : ms.length = 16) (hb : Bytes ms) (hd : isD n ms = false) (w : World) :
    Calls Try.prog 105 #[.agg (dcells n ms), F] w fun e w' => e = .returned (.tuple #[.agg zcells, .int .i64 1]) ∧ Below w.heap.size w w' := by
  have hl := Lib.hid hms
  have hc := Lib.hid (fun w => isI_any n ms hms hb w)
  rw [hd] at hc
  clear hms hb hd
  go_enter Try.func105, Try.ntmps105
  go_wp2_with (first
    | (refine wpList_load_row rfl 68 _ rfl _ rfl 68 _ (0, 0) _ ((Own.new _ _ _).alloc _) Try.underlying68 rfl (row26 (d17 _ _ (hl.out))) ?_)
    | (go_at_call 99; ((with_reducible refine (hc.out _).mono ?_); rintro e w1 ⟨rfl, hB1⟩; have hR1 : Own w1 (w.heap.size + 1) zcells 68 := (Own.at _ _ _ (by simp)).below hB1 (by simp); have hBw : Below w.heap.size w w1 := (((Below.refl w.heap.size w).alloc (Nat.le_refl _) _).alloc (by simp) _).trans (hB1.mono (by simp <;> omega)); clear hB1))
    | (refine wpList_build_of rfl 68 #[] rfl zcells ?_ ?_; (exact built26nil))
    | (refine wpList_store_own rfl 68 _ _ rfl _ _ rfl rfl 68 _ (hR1) (row26 (d17 _ _ (zlen))) (rfl) (dcells_one _ _) ?_; intro w4 hO4 hN4))
  refine bodyPost_ret (v := .tuple #[.agg (zcells), .int .i64 1]) (results_row_tmp rfl _ _ _ _ _ (0, 0) _ rfl (hO4) Try.underlying68 rfl (row26 (d17 _ _ (zlen))) _ rfl) rfl (⟨rfl, hBw.trans (hN4.below.mono (by omega))⟩)
end Go.Proofs.Ytpmcngmphkegnaa
