/- The new desk: the program's and the model's; marks of desks; the law of NewDesk. -/
import Derived.Test.YtdmgmhjclagnpaaEl1
import Derived.Test.YtdmgmhjclagnpaaDsk
import Derived.Deep.CutRange
namespace Go.Proofs.Ytdmgmhjclagnpaa
open Go.RowKit
set_option linter.unusedVariables false
set_option linter.unusedSimpArgs false
theorem builtDk (p c n : Int) (q : Option Addr) (l cap : Nat) (p' c' n' : Int) (q' : Option Addr) (l' cap' : Nat) : Try.prog.built 26 [(0, .agg (ecl p c n (.slice q l cap))), (1, .agg (ecl p' c' n' (.slice q' l' cap')))] = some (dkl p c n (.slice q l cap) p' c' n' (.slice q' l' cap')) := by kernel_rfl
theorem Own.neTz {w : World} {b b' : Nat} {cs cs' : Array Value} {t t' : TypeId} (h : Own w b cs t) (h' : Own w b' cs' t') (ht : t ≠ t') : b ≠ b' := by
  rintro rfl
  have : some (Obj.cells cs t (0, 0)) = some (Obj.cells cs' t' (0, 0)) := (show w.heap[b]? = _ from h).symm.trans h'
  simp at this
  exact ht this.2
theorem gen_wdn {P : Program} {c : Code} {Q : Exit → Act → World → Prop} {a : Act} {W : World} (S : World → Prop) (h : S W) (k : ∀ x, S x → c.wp P Q a x) : c.wp P Q a W := k W h
theorem Below.of_alloc {w w' : World} {o : Obj} (h : Below (w.alloc o).heap.size (w.alloc o) w') : Below w.heap.size w w' := (bel1 w o).trans (h.mono (bel1 w o).size)
set_option maxRecDepth 100000 in
set_option maxHeartbeats 1000000 in
theorem emptyS_any (p c n : Int) (q : Option Addr) (l cap : Nat) (w : World) :
    Calls Try.prog 38 #[.agg (ecl p c n (.slice q l cap))] w fun e w' => ∃ g, e = .returned (.agg (ecl p c n (.slice (some ⟨g, 0, none⟩) 0 0))) ∧ w.heap.size ≤ g ∧ Own w' g #[] 66 ∧ Below w.heap.size w w' := by
  unfold ecl
  have oR := Lib.hid (fun (A C : Obj) (cs : Array Value) => show Own (((w.alloc A).alloc (.cells cs 24)).alloc C) (w.heap.size + 1) cs 24 from (Own.at (w.alloc A) cs 24 (by simp)).alloc C)
  have oT := Lib.hid (fun (A B : Obj) (cs : Array Value) => show Own (((w.alloc A).alloc B).alloc (.cells cs 66)) (w.heap.size + 1 + 1) cs 66 from Own.at ((w.alloc A).alloc B) cs 66 (by simp))
  have b3 := Lib.hid (fun (A B C : Obj) => bel3 w A B C)
  go_enter Try.func38, Try.ntmps38
  go_wp2
  refine bodyPost_ret (v := .agg #[.int .i64 p, .int .i64 c, .int .i64 n, .slice (some ⟨w.heap.size + 1 + 1, 0, none⟩) 0 0]) (results_cell_row rfl _ _ _ _ _ (0, 0) _ rfl (oR.out _ _ _) Try.underlying24 rfl (by kernel_rfl)) rfl ⟨_, rfl, by omega, oT.out _ _ _, b3.out _ _ _⟩
set_option maxRecDepth 100000 in
set_option maxHeartbeats 2000000 in
theorem oneE_any (p c n : Int) (q : Option Addr) (l cap : Nat) (h1 : 1 ≤ n) (h8 : n ≤ 8) (w : World) :
    Calls Try.prog 81 #[.agg (ecl p c n (.slice q l cap))] w fun e w' => ∃ g cap', e = .returned (.agg (ecl p c n (.slice (some ⟨g, 0, none⟩) 1 cap'))) ∧ MnT w' w.heap.size g [(n, oneL n n.toNat, 1)] ∧ 1 ≤ cap' ∧ Below w.heap.size w w' := by
  have hE := Lib.hid (fun w => emptyS_any p c n q l cap w)
  have hone := Lib.hid (fun w => oneS_any n w h1 h8)
  have hl := Lib.hid (oneL_len n n.toNat)
  obtain ⟨ms, hms⟩ : ∃ ms, oneL n n.toNat = ms := ⟨_, rfl⟩
  rw [hms] at hone hl ⊢
  have hb := Lib.hid (builtT n ms hl.out 1)
  have hm1 := Lib.hid (mkT1 n ms hl.out 1)
  have h16 : L16 [(n, ms, 1)] := fun t ht => by obtain rfl : t = (n, ms, 1) := (by simpa using ht); exact hl.out
  have H16 := Lib.hid h16
  clear hms h16
  unfold ecl at *
  go_enter Try.func81, Try.ntmps81
  go_upto_region 2 with (first
    | (refine wpList_load_row rfl 24 _ rfl _ rfl 24 _ (0, 0) _ ((Own.new w _ _).alloc _) Try.underlying24 rfl (by kernel_rfl) ?_)
    | (go_at_call 38; ((with_reducible refine (hE.out _).mono ?_); rintro e w1 ⟨g, rfl, hg, hT1, hB1⟩; simp only [World.size_alloc] at hg))
    | (refine wpList_store_own rfl 24 _ _ rfl _ _ rfl rfl 24 _ (Own.new w1 _ _) (by kernel_rfl) rfl (by simp [Value.oneCell']) ?_; intro w2 hO2 hN2))
  have hs1 := hB1.size
  simp only [World.size_alloc] at hs1
  have hX1 : Own w1 w.heap.size #[.int .i64 p, .int .i64 c, .int .i64 n, .slice q l cap] 24 := ((Own.new w _ _).alloc _).below hB1 (by simp <;> omega)
  have hZ1 : Own w1 (w.heap.size + 1) #[.int .i64 0, .int .i64 0, .int .i64 0, .slice none 0 0] 24 := (Own.at (w.alloc _) _ _ (by simp)).below hB1 (by simp)
  have hX2 := (hX1.alloc (.cells #[.int .i64 0, .int .i64 0, .int .i64 0, .slice none 0 0] 24)).only hN2 (by have := hX1.lt; omega)
  have hZ2 := (hZ1.alloc (.cells #[.int .i64 0, .int .i64 0, .int .i64 0, .slice none 0 0] 24)).only hN2 (by have := hZ1.lt; omega)
  have hT2 := (hT1.alloc (.cells #[.int .i64 0, .int .i64 0, .int .i64 0, .slice none 0 0] 24)).only hN2 (by have := hT1.lt; omega)
  have bA : Below w.heap.size w w1 := (bel2 w _ _).trans (hB1.mono (by simp <;> omega))
  have bB := (bA.alloc (by omega) (.cells #[.int .i64 0, .int .i64 0, .int .i64 0, .slice none 0 0] 24)).trans (hN2.below.mono (by omega))
  obtain ⟨b3, hb3⟩ : ∃ b, w1.heap.size = b := ⟨_, rfl⟩
  rw [hb3] at hO2 hN2 hs1
  have hgb : g < b3 := by have := hT1.lt; omega
  rw [hb3]
  clear hX1 hZ1 hT1 hB1 bA hN2 hb3
  refine wp_region_st (fun x => Own x b3 #[.int .i64 p, .int .i64 c, .int .i64 n, .slice (some ⟨g, 0, none⟩) 0 0] 24 ∧ Own x w.heap.size #[.int .i64 p, .int .i64 c, .int .i64 n, .slice q l cap] 24 ∧ Own x (w.heap.size + 1) #[.int .i64 0, .int .i64 0, .int .i64 0, .slice none 0 0] 24 ∧ Below w.heap.size w x) [(true, 0), (true, 1), (true, 2), (true, 3), (false, 4), (false, 5), (false, 6), (false, 7), (true, 8)] 9 (by kernel_rfl) (by kernel_rfl) ⟨hO2.drewN 1, hX2.drewN 1, hZ2.drewN 1, bB.drew⟩ ?_
  simp only [List.map_cons, List.map_nil, opS'_mk, opN_zero, opN_succ, List.drop_succ_cons, List.drop_zero]
  have hO8 := hO2.drewN 1
  have hX8 := hX2.drewN 1
  have hZ8 := hZ2.drewN 1
  have hT8 := hT2.drewN 1
  have hB8 := bB.drew
  change Own { w2 with drawn := w2.drawn + 1 } _ _ _ at hO8 hX8 hZ8 hT8
  change Below _ _ { w2 with drawn := w2.drawn + 1 } at hB8
  clear hO2 hX2 hZ2 hT2 bB
  generalize ({ w2 with drawn := w2.drawn + 1 } : World) = w8 at *
  iterate 4 (apply wpSt_read; · (intro wd hS K hK; have k0 := hS.1.cell 3; have k1 := hS.2.1.cell 2; clear hS; go_simp; exact hK))
  refine wpSt_keep (fun K hK => ?_)
  go_wp2_with (first
    | (go_at_call 94; ((with_reducible refine (hone.out w8).mono ?_); rintro e w9 ⟨rfl, hB9⟩)))
  have hO9 := hO8.below hB9 hO8.lt
  have hX9 := hX8.below hB9 hX8.lt
  have hZ9 := hZ8.below hB9 hZ8.lt
  have hT9 := hT8.below hB9 hT8.lt
  have hBx := hB8.trans (hB9.mono hB8.size)
  clear hO8 hX8 hZ8 hT8 hB8 hB9
  refine hK _ _ ⟨hO9, hX9, hZ9, hBx⟩ rfl ?_
  clear hK K
  refine wpSt_keep (fun K hK => ?_)
  go_wp2_with (first
    | (refine wpList_build_of rfl 66 #[(0, .tmp 10), (1, .const (.int .i64 1))] rfl (tcl (n, ms, 1)).toArray ?_ ?_; (exact hb.out)))
  refine hK _ _ ⟨hO9, hX9, hZ9, hBx⟩ rfl ?_
  clear hK K
  refine wpSt_keep (fun K hK => ?_)
  go_wp2_with (first
    | (refine wpList_mkslice rfl 22 (.tmp 11) rfl (.agg (tcl (n, ms, 1)).toArray) _ rfl (hm1.out _) ?_))
  have hs9 := hBx.size
  have hOa := hO9.alloc (.cells (tcl (n, ms, 1)).toArray 66)
  have hXa := hX9.alloc (.cells (tcl (n, ms, 1)).toArray 66)
  have hZa := hZ9.alloc (.cells (tcl (n, ms, 1)).toArray 66)
  have hTa := hT9.alloc (.cells (tcl (n, ms, 1)).toArray 66)
  have hBa := hBx.alloc hs9 (.cells (tcl (n, ms, 1)).toArray 66)
  have hflat := one_flat w9 (n, ms, 1)
  have h9 : w9.heap.size < (w9.alloc (.cells (tcl (n, ms, 1)).toArray 66)).heap.size := by simp
  obtain ⟨wa, hwa⟩ : ∃ x, w9.alloc (.cells (tcl (n, ms, 1)).toArray 66) = x := ⟨_, rfl⟩
  rw [hwa] at hOa hXa hZa hTa hBa hflat h9 ⊢
  clear hO9 hX9 hZ9 hT9 hBx
  refine hK _ _ ⟨hOa, hXa, hZa, hBa⟩ rfl ?_
  clear hK K
  have hrow : RowT wa w.heap.size (.slice (some ⟨g, 0, none⟩) 0 0) [] := ⟨rfl, .inr ⟨g, 0, #[], rfl, by omega, hTa, Nat.le_refl _, by unfold maxLen; omega, rfl, rfl⟩⟩
  refine wpSt_keep (fun K hK => ?_)
  go_wp2_with (first
    | (refine wpList_append_terms rfl (.tmp 7) (.tmp 12) rfl w.heap.size (.slice (some ⟨g, 0, none⟩) 0 0) [] [(n, ms, 1)] H16.out rfl hrow (by simp) ⟨w9.heap.size, 0, none⟩ 1 rfl hflat (by simp) hBa.size ?_; intro v' wb hv hnv hG))
  have hG' : wa.grownBy wb (some g) := hG
  have hOb := hOa.grown hG' (by omega)
  have hXb := hXa.grown hG' (by omega)
  have hZb := hZa.grown hG' (by omega)
  have hBb := hBa.grown hG' hBa.size (fun k e => by injection e with e; omega)
  obtain ⟨g', cap', rfl, hcap, hM⟩ := hv.mn hnv
  have hgb3 : g' ≠ b3 := fun e => by
    obtain ⟨_, sp, ho⟩ := hM
    rw [e] at ho
    exact (Own.neTz ho hOb (by decide)) rfl
  have hgz : g' ≠ w.heap.size + 1 := fun e => by
    obtain ⟨_, sp, ho⟩ := hM
    rw [e] at ho
    exact (Own.neTz ho hZb (by decide)) rfl
  clear hOa hXa hZa hTa hBa hG hG' hrow hflat hv hnv
  refine hK _ _ ⟨hOb, hXb, hZb, hBb⟩ rfl ?_
  clear hK K
  (apply wpSt_read; · (intro wd hS K hK; clear hS; go_simp; exact hK))
  refine wpSt_nil ?_
  have c3 := hOb.cell 3
  have f3 := hOb.free 3
  have hOc := Lib.hid (show Own (wb.setCell ⟨b3, 3, none⟩ (.slice (some ⟨g', 0, none⟩) 1 cap')) b3 #[.int .i64 p, .int .i64 c, .int .i64 n, .slice (some ⟨g', 0, none⟩) 1 cap'] 24 from hOb.set 3 _)
  have hZc := Lib.hid (hZb.other (a := ⟨b3, 3, none⟩) (by show b3 ≠ w.heap.size + 1; omega) (.slice (some ⟨g', 0, none⟩) 1 cap'))
  have hMc := Lib.hid (show MnT (wb.setCell ⟨b3, 3, none⟩ (.slice (some ⟨g', 0, none⟩) 1 cap')) w.heap.size g' [(n, ms, 1)] from by
    obtain ⟨h0, sp, ho⟩ := hM
    exact ⟨h0, sp, ho.other (a := ⟨b3, 3, none⟩) (by show b3 ≠ g'; exact fun e => hgb3 e.symm) _⟩)
  have hBc := Lib.hid (hBb.setCell (p := ⟨b3, 3, none⟩) (by show w.heap.size ≤ b3; omega) (.slice (some ⟨g', 0, none⟩) 1 cap'))
  clear hOb hXb hZb hM hBb
  go_wp2_with (first
    | (refine wpList_load_row rfl 24 _ rfl _ rfl 24 _ (0, 0) _ hOc.out Try.underlying24 rfl (by kernel_rfl) ?_)
    | (refine wpList_store_own rfl 24 _ _ rfl _ _ rfl rfl 24 _ hZc.out (by kernel_rfl) rfl (by simp [Value.oneCell']) ?_; intro w5 hO5 hN5))
  refine bodyPost_ret (v := .agg #[.int .i64 p, .int .i64 c, .int .i64 n, .slice (some ⟨g', 0, none⟩) 1 cap']) (results_cell_row rfl _ _ _ _ _ (0, 0) _ rfl hO5 Try.underlying24 rfl (by kernel_rfl)) rfl ⟨g', cap', rfl, ?_, hcap, hBc.out.trans (hN5.below.mono (by omega))⟩
  obtain ⟨h0, sp, ho⟩ := hMc.out
  exact ⟨h0, sp, ho.only hN5 hgz⟩
set_option maxRecDepth 100000 in
set_option maxHeartbeats 2000000 in
theorem freshS_any (p c n : Int) (h1 : 1 ≤ n) (h8 : n ≤ 8) (w : World) :
    Calls Try.prog 61 #[.int .i64 p, .int .i64 c, .int .i64 n] w fun e w' => ∃ g cap' g2, e = .returned (.agg (dkl p c n (.slice (some ⟨g, 0, none⟩) 1 cap') p c n (.slice (some ⟨g2, 0, none⟩) 0 0))) ∧ MnT w' w.heap.size g [(n, oneL n n.toNat, 1)] ∧ 1 ≤ cap' ∧ MnT w' w.heap.size g2 [] ∧ Below w.heap.size w w' := by
  have hone := Lib.hid (fun q l cap w => oneE_any p c n q l cap h1 h8 w)
  obtain ⟨T, hT⟩ : ∃ T, [(n, oneL n n.toNat, (1 : Int))] = T := ⟨_, rfl⟩
  rw [hT] at hone ⊢
  have oD := Lib.hid (fun (A B C : Obj) => show Own (((w.alloc (.cells (dkl 0 0 0 (.slice none 0 0) 0 0 0 (.slice none 0 0)) 26)).alloc B).alloc C) w.heap.size (dkl 0 0 0 (.slice none 0 0) 0 0 0 (.slice none 0 0)) 26 from ((Own.new w _ _).alloc B).alloc C)
  have oT := Lib.hid (fun (A C : Obj) => show Own (((w.alloc A).alloc (.cells #[] 66)).alloc C) (w.heap.size + 1) #[] 66 from (Own.at (w.alloc A) #[] 66 (by simp)).alloc C)
  have oE := Lib.hid (fun (A B : Obj) (cs : Array Value) => show Own (((w.alloc A).alloc B).alloc (.cells cs 24)) (w.heap.size + 1 + 1) cs 24 from Own.at ((w.alloc A).alloc B) cs 24 (by simp))
  have b3 := Lib.hid (fun (A B C : Obj) => bel3 w A B C)
  clear hT
  unfold ecl at *
  go_enter Try.func61, Try.ntmps61
  go_upto_region 2 with fail
  refine gen_wdn (fun x => Own x w.heap.size (dkl 0 0 0 (.slice none 0 0) 0 0 0 (.slice none 0 0)) 26 ∧ Own x (w.heap.size + 1) #[] 66 ∧ Own x (w.heap.size + 1 + 1) #[.int .i64 p, .int .i64 c, .int .i64 n, .slice (some ⟨w.heap.size + 1, 0, none⟩) 0 0] 24 ∧ Below w.heap.size w x) ⟨oD.out (.cells #[] 0) _ _, oT.out _ _, oE.out _ _ _, b3.out _ _ _⟩ ?_
  clear oD oT oE b3
  rintro w2 ⟨hD2, hT2, hE2, hB2⟩
  refine wp_region_st (fun x => Own x (w.heap.size + 1 + 1) #[.int .i64 p, .int .i64 c, .int .i64 n, .slice (some ⟨w.heap.size + 1, 0, none⟩) 0 0] 24 ∧ Below w.heap.size w x) [(true, 0), (true, 2), (false, 1)] 3 (by kernel_rfl) (by kernel_rfl) ⟨hE2.drewN 1, hB2.drew⟩ ?_
  simp only [List.map_cons, List.map_nil, opS'_mk, opN_zero, opN_succ, List.drop_succ_cons, List.drop_zero]
  have hD8 := hD2.drewN 1
  have hT8 := hT2.drewN 1
  have hE8 := hE2.drewN 1
  have hB8 := hB2.drew
  change Own { w2 with drawn := w2.drawn + 1 } _ _ _ at hD8 hT8 hE8
  change Below _ _ { w2 with drawn := w2.drawn + 1 } at hB8
  clear hD2 hT2 hE2 hB2
  generalize ({ w2 with drawn := w2.drawn + 1 } : World) = w8 at *
  (apply wpSt_read; · (intro wd hS K hK; rw [if_pos (by rfl)]; refine still_load_row 24 (.tmp 7) rfl (w.heap.size + 1 + 1) rfl 24 _ _ hS.1 Try.underlying24 rfl (by kernel_rfl) ?_; exact hK))
  (apply wpSt_read; · (intro wd hS K hK; rw [if_pos (by rfl)]; refine still_load_row 24 (.tmp 7) rfl (w.heap.size + 1 + 1) rfl 24 _ _ hS.1 Try.underlying24 rfl (by kernel_rfl) ?_; exact hK))
  refine wpSt_keep (fun K hK => ?_)
  go_wp2_with (first
    | (go_at_call 81; ((with_reducible refine (hone.out _ _ _ w8).mono ?_); rintro e w9 ⟨g, cap', rfl, hM9, hcap, hB9⟩)))
  have hD9 := hD8.below hB9 hD8.lt
  have hT9 := hT8.below hB9 hT8.lt
  have hE9 := hE8.below hB9 hE8.lt
  have hgl : w8.heap.size ≤ g := hM9.1
  have hlt8 := hT8.lt
  have hBx := hB8.trans (hB9.mono hB8.size)
  have hs8 := hB8.size
  clear hD8 hT8 hE8 hB8 hB9
  refine hK _ _ ⟨hE9, hBx⟩ rfl ?_
  clear hK K
  refine wpSt_nil ?_
  go_wp2_with (first
    | (refine wpList_build_of rfl 26 #[(0, .tmp 14), (1, .tmp 15)] rfl (dkl p c n (.slice (some ⟨g, 0, none⟩) 1 cap') p c n (.slice (some ⟨w.heap.size + 1, 0, none⟩) 0 0)) ?_ ?_; (exact builtDk p c n _ 1 cap' p c n _ 0 0))
    | (refine wpList_store_own rfl 26 _ _ rfl _ _ rfl rfl 26 _ hD9 (by kernel_rfl) rfl (by simp [dkl, Value.oneCell']) ?_; intro w5 hO5 hN5))
  refine bodyPost_ret (v := .agg (dkl p c n (.slice (some ⟨g, 0, none⟩) 1 cap') p c n (.slice (some ⟨w.heap.size + 1, 0, none⟩) 0 0))) (results_cell_row rfl _ _ _ _ _ (0, 0) _ rfl hO5 Try.underlying26 rfl (by kernel_rfl)) rfl ⟨g, cap', w.heap.size + 1, rfl, ?_, hcap, ⟨by omega, [], by simpa [tsl] using hT9.only hN5 (by omega)⟩, hBx.trans (hN5.below.mono (by omega))⟩
  obtain ⟨h0, sp, ho⟩ := hM9
  exact ⟨by omega, sp, ho.only hN5 (by omega)⟩
set_option maxRecDepth 100000 in
set_option maxHeartbeats 2000000 in
theorem unitDk_any (p c n : Int) (h1 : 1 ≤ n) (h8 : n ≤ 8) (w : World) :
    Calls Try.prog 33 #[.int .i64 p, .int .i64 c, .int .i64 n] w fun e w' => ∃ g, e = .returned (.agg (dkl p c n (.slice (some ⟨g, 0, none⟩) 1 1) p c n (.slice none 0 0))) ∧ MnT w' w.heap.size g [(n, oneL n n.toNat, 1)] ∧ Below w.heap.size w w' := by
  have hU := Lib.hid (fun w => unitI_ok n w h1 h8)
  have hl := Lib.hid (oneL_len n n.toNat)
  have hlk := Lib.hid (fun w => likeI_any p c n none 0 0 n (oneL n n.toNat) hl.out w)
  obtain ⟨ms, hms⟩ : ∃ ms, oneL n n.toNat = ms := ⟨_, rfl⟩
  rw [hms] at hU hl hlk ⊢
  clear hms
  unfold ecl at *
  have hbE := Lib.hid (show Try.prog.built 24 [(0, .int .i64 p), (1, .int .i64 c), (2, .int .i64 n)] = some #[.int .i64 p, .int .i64 c, .int .i64 n, .slice none 0 0] from builtE0 p c n)
  go_enter Try.func33, Try.ntmps33
  go_upto_region 3 with (first
    | (refine wpList_build_of rfl 24 #[(0, .tmp 10), (1, .tmp 11), (2, .tmp 12)] rfl #[.int .i64 p, .int .i64 c, .int .i64 n, .slice none 0 0] ?_ ?_; (exact hbE.out))
    | (refine wpList_store_own rfl 24 _ _ rfl _ _ rfl rfl 24 _ (Own.at (w.alloc _) _ _ (by simp : _ = w.heap.size + 1)) (by kernel_rfl) rfl (by simp [Value.oneCell']) ?_; intro w1 hO1 hN1; have hD1 : Own w1 w.heap.size (dkl 0 0 0 (.slice none 0 0) 0 0 0 (.slice none 0 0)) 26 := ((Own.new w _ _).alloc _).only hN1 (by omega); have bB1 := (bel2 w _ _).trans (hN1.below.mono (by omega)))
    | (go_at_call 62; ((with_reducible refine (hU.out _).mono ?_); rintro e w2 ⟨rfl, hB2⟩; have hO2 := hO1.below hB2 hO1.lt; have hD2 := hD1.below hB2 hD1.lt; have bB2 := bB1.trans (hB2.mono bB1.size)))
    | (refine wpList_store_own rfl 53 _ _ rfl _ _ rfl rfl 53 _ (Own.new w2 _ _) (row26 (d17 _ _ (hl.out))) (by rw [d17 _ _ hl.out]; rfl) (dcells_one _ _) ?_; intro w3 hS3 hN3))
  have hO3 := (hO2.alloc (.cells zcells 53)).only hN3 (Nat.ne_of_lt hO2.lt)
  have hD3 := (hD2.alloc (.cells zcells 53)).only hN3 (Nat.ne_of_lt hD2.lt)
  have hs2 := bB2.size
  have bB3 := (bB2.alloc hs2 (.cells zcells 53)).trans (hN3.below.mono hs2)
  obtain ⟨bd, hbd⟩ : ∃ b, w2.heap.size = b := ⟨_, rfl⟩
  rw [hbd] at hS3 hs2 hN3
  rw [hbd]
  clear hO2 hD2 hO1 hD1 bB1 bB2 hB2 hN1 hN3 hbd
  refine wp_region_st (fun x => Own x (w.heap.size + 1) #[.int .i64 p, .int .i64 c, .int .i64 n, .slice none 0 0] 24 ∧ Own x bd (dcells n ms) 53 ∧ Below w.heap.size w x) [(true, 0), (true, 1), (true, 3), (false, 2)] 4 (by kernel_rfl) (by kernel_rfl) ⟨hO3.drewN 1, hS3.drewN 1, bB3.drew⟩ ?_
  simp only [List.map_cons, List.map_nil, opS'_mk, opN_zero, opN_succ, List.drop_succ_cons, List.drop_zero]
  have hO8 := hO3.drewN 1
  have hD8 := hD3.drewN 1
  have hS8 := hS3.drewN 1
  have hB8 := bB3.drew
  change Own { w3 with drawn := w3.drawn + 1 } _ _ _ at hO8 hD8 hS8
  change Below _ _ { w3 with drawn := w3.drawn + 1 } at hB8
  clear hO3 hD3 hS3 bB3
  generalize ({ w3 with drawn := w3.drawn + 1 } : World) = w8 at *
  (apply wpSt_read; · (intro wd hS K hK; rw [if_pos (by rfl)]; refine still_load_row 24 (.tmp 7) rfl (w.heap.size + 1) rfl 24 _ _ hS.1 Try.underlying24 rfl (by kernel_rfl) ?_; exact hK))
  (apply wpSt_read; · (intro wd hS K hK; rw [if_pos (by rfl)]; refine still_load_row 53 (.tmp 8) rfl bd rfl 53 _ _ hS.2.1 Try.underlying53 rfl (row26 (d17 _ _ hl.out)) ?_; exact hK))
  (apply wpSt_read; · (intro wd hS K hK; rw [if_pos (by rfl)]; refine still_load_row 24 (.tmp 7) rfl (w.heap.size + 1) rfl 24 _ _ hS.1 Try.underlying24 rfl (by kernel_rfl) ?_; exact hK))
  refine wpSt_keep (fun K hK => ?_)
  go_wp2_with (first
    | (go_at_call 63; ((with_reducible refine (hlk.out w8).mono ?_); rintro e w9 ⟨g, rfl, hg, hM9, hB9⟩)))
  have hO9 := hO8.below hB9 hO8.lt
  have hD9 := hD8.below hB9 hD8.lt
  have hS9 := hS8.below hB9 hS8.lt
  have hlt8 := hD8.lt
  have hBx := hB8.trans (hB9.mono hB8.size)
  have hs8 := hB8.size
  clear hO8 hD8 hS8 hB8 hB9
  refine hK _ _ ⟨hO9, hS9, hBx⟩ rfl ?_
  clear hK K
  refine wpSt_nil ?_
  go_wp2_with (first
    | (refine wpList_build_of rfl 26 #[(0, .tmp 21), (1, .tmp 22)] rfl (dkl p c n (.slice (some ⟨g, 0, none⟩) 1 1) p c n (.slice none 0 0)) ?_ ?_; (exact builtDk p c n _ 1 1 p c n none 0 0))
    | (refine wpList_store_own rfl 26 _ _ rfl _ _ rfl rfl 26 _ hD9 (by kernel_rfl) rfl (by simp [dkl, Value.oneCell']) ?_; intro w5 hO5 hN5))
  refine bodyPost_ret (v := .agg (dkl p c n (.slice (some ⟨g, 0, none⟩) 1 1) p c n (.slice none 0 0))) (results_cell_row rfl _ _ _ _ _ (0, 0) _ rfl hO5 Try.underlying26 rfl (by kernel_rfl)) rfl ⟨g, rfl, ⟨by omega, [], ?_⟩, hBx.trans (hN5.below.mono (by omega))⟩
  simpa [tsl] using hM9.only hN5 (by omega)
set_option maxRecDepth 100000 in
theorem newDkI_any (w : World) :
    Calls Try.prog 10 #[] w fun e w' => ∃ g, e = .returned (.agg (dkl 7 3 3 (.slice (some ⟨g, 0, none⟩) 1 1) 7 3 3 (.slice none 0 0))) ∧ MnT w' w.heap.size g [(3, oneL 3 3, 1)] ∧ Below w.heap.size w w' := by
  have hU := Lib.hid (fun w => unitDk_any 7 3 3 (by omega) (by omega) w)
  go_enter Try.func10, Try.ntmps10
  go_wp2_with (first
    | (go_at_call 33; ((with_reducible refine (hU.out _).mono ?_); rintro e w1 ⟨g, rfl, hM1, hB1⟩; have hD1 : Own w1 w.heap.size (dkl 0 0 0 (.slice none 0 0) 0 0 0 (.slice none 0 0)) 26 := (Own.new w _ _).below hB1 (by simp); have b1 := (bel1 w _).trans (hB1.mono (bel1 w _).size)))
    | (refine wpList_store_own rfl 26 _ _ rfl _ _ rfl rfl 26 _ hD1 (by kernel_rfl) rfl (by simp [dkl, Value.oneCell']) ?_; intro w5 hO5 hN5))
  refine bodyPost_ret (v := .agg (dkl 7 3 3 (.slice (some ⟨g, 0, none⟩) 1 1) 7 3 3 (.slice none 0 0))) (results_cell_row rfl _ _ _ _ _ (0, 0) _ rfl hO5 Try.underlying26 rfl (by kernel_rfl)) rfl ⟨g, rfl, ?_, b1.trans (hN5.below.mono (by omega))⟩
  obtain ⟨h0, sp, ho⟩ := hM1
  simp at h0
  exact ⟨by omega, sp, ho.only hN5 (by omega)⟩
set_option maxRecDepth 100000 in
theorem newDkS_any (w : World) :
    Calls Try.prog 9 #[] w fun e w' => ∃ g cap' g2, e = .returned (.agg (dkl 7 3 3 (.slice (some ⟨g, 0, none⟩) 1 cap') 7 3 3 (.slice (some ⟨g2, 0, none⟩) 0 0))) ∧ MnT w' w.heap.size g [(3, oneL 3 3, 1)] ∧ MnT w' w.heap.size g2 [] ∧ Below w.heap.size w w' := by
  have hF := Lib.hid (fun w => freshS_any 7 3 3 (by omega) (by omega) w)
  have hN := Lib.hid (fun w => (show Calls Try.prog 32 #[] w fun e w' => ∃ g cap' g2, e = .returned (.agg (dkl 7 3 3 (.slice (some ⟨g, 0, none⟩) 1 cap') 7 3 3 (.slice (some ⟨g2, 0, none⟩) 0 0))) ∧ MnT w' w.heap.size g [(3, oneL 3 3, 1)] ∧ MnT w' w.heap.size g2 [] ∧ Below w.heap.size w w' from by
    go_enter Try.func32, Try.ntmps32
    go_wp2_with (first
      | (go_at_call 61; ((with_reducible refine (hF.out _).mono ?_); rintro e w1 ⟨g, cap', g2, rfl, hM1, hc, hM2, hB1⟩; have hD1 : Own w1 w.heap.size (dkl 0 0 0 (.slice none 0 0) 0 0 0 (.slice none 0 0)) 26 := (Own.new w _ _).below hB1 (by simp); have b1 := (bel1 w _).trans (hB1.mono (bel1 w _).size)))
      | (refine wpList_store_own rfl 26 _ _ rfl _ _ rfl rfl 26 _ hD1 (by kernel_rfl) rfl (by simp [dkl, Value.oneCell']) ?_; intro w5 hO5 hN5))
    refine bodyPost_ret (v := .agg (dkl 7 3 3 (.slice (some ⟨g, 0, none⟩) 1 cap') 7 3 3 (.slice (some ⟨g2, 0, none⟩) 0 0))) (results_cell_row rfl _ _ _ _ _ (0, 0) _ rfl hO5 Try.underlying26 rfl (by kernel_rfl)) rfl ⟨g, cap', g2, rfl, ?_, ?_, b1.trans (hN5.below.mono (by omega))⟩
    · obtain ⟨h0, sp, ho⟩ := hM1
      simp at h0
      exact ⟨by omega, sp, ho.only hN5 (by omega)⟩
    · obtain ⟨h0, sp, ho⟩ := hM2
      simp at h0
      exact ⟨by omega, sp, ho.only hN5 (by omega)⟩))
  clear hF
  go_enter Try.func9, Try.ntmps9
  go_wp2_with (first
    | (go_at_call 32; ((with_reducible refine (hN.out _).mono ?_); rintro e w1 ⟨g, cap', g2, rfl, hM1, hM2, hB1⟩; have hD1 : Own w1 w.heap.size (dkl 0 0 0 (.slice none 0 0) 0 0 0 (.slice none 0 0)) 26 := (Own.new w _ _).below hB1 (by simp); have b1 := (bel1 w _).trans (hB1.mono (bel1 w _).size)))
    | (refine wpList_store_own rfl 26 _ _ rfl _ _ rfl rfl 26 _ hD1 (by kernel_rfl) rfl (by simp [dkl, Value.oneCell']) ?_; intro w5 hO5 hN5))
  refine bodyPost_ret (v := .agg (dkl 7 3 3 (.slice (some ⟨g, 0, none⟩) 1 cap') 7 3 3 (.slice (some ⟨g2, 0, none⟩) 0 0))) (results_cell_row rfl _ _ _ _ _ (0, 0) _ rfl hO5 Try.underlying26 rfl (by kernel_rfl)) rfl ⟨g, cap', g2, rfl, ?_, ?_, b1.trans (hN5.below.mono (by omega))⟩
  · obtain ⟨h0, sp, ho⟩ := hM1
    simp at h0
    exact ⟨by omega, sp, ho.only hN5 (by omega)⟩
  · obtain ⟨h0, sp, ho⟩ := hM2
    simp at h0
    exact ⟨by omega, sp, ho.only hN5 (by omega)⟩
theorem RdT.mn {w : World} {B g : Nat} {ts : List Tm} (h : MnT w B g ts) (h16 : L16 ts) : RdT w (some ⟨g, 0, none⟩) ts := h.rd h16
theorem RdT.no (w : World) (q : Option Addr) : RdT w q [] := ⟨fun a e k hk => by simp at hk, fun _ => rfl⟩
set_option maxRecDepth 100000 in
set_option maxHeartbeats 1000000 in
/-- The marks of a desk of one term and of none. -/
theorem markDk1 (p c n p' c' n' : Int) (g cap S : Nat) (hS : 18 ≤ S) (w : World) (hM : Mkw w g S 1 0) :
    Calls Try.prog 12 #[.agg (dkl p c n (.slice (some ⟨g, 0, none⟩) 1 cap) p' c' n' (.slice none 0 0)), .int .i64 1] w fun e w' => e = .returned (.int .i64 19) ∧ Mkw w' g S 1 18 ∧ ∃ w1, Below w.heap.size w w1 ∧ ∃ w2, Only g w1 w2 ∧ w1.heap.size ≤ w2.heap.size ∧ Below w2.heap.size w2 w' := by
  have h1 := Lib.hid (fun w hM => (show Calls Try.prog 23 #[.agg (ecl p c n (.slice (some ⟨g, 0, none⟩) 1 cap)), .int .i64 1] w fun e w' => e = .returned (.int .i64 19) ∧ (Mkw w' g S 1 18 ∧ Only g (w.alloc (.cells (ecl p c n (.slice (some ⟨g, 0, none⟩) 1 cap)) 24)) w') from markE_abs p c n (some ⟨g, 0, none⟩) 1 cap ((1 : Nat) : Int) (((1 : Nat) : Int) + ((1 : Nat) : Int) * 18) w (fun w' => Mkw w' g S 1 (1 * 18) ∧ Only g (w.alloc (.cells (ecl p c n (.slice (some ⟨g, 0, none⟩) 1 cap)) 24)) w') (markTS_any _ g 1 cap S 1 (by omega) (by omega) (by omega) hM)))
  have h2 := Lib.hid (fun w => show Calls Try.prog 23 #[.agg (ecl p' c' n' (.slice none 0 0)), .int .i64 19] w fun e w' => e = .returned (.int .i64 19) ∧ w' = w.alloc (.cells (ecl p' c' n' (.slice none 0 0)) 24) from markE_abs p' c' n' none 0 0 ((19 : Nat) : Int) ((19 : Nat) : Int) w (fun w' => w' = w.alloc (.cells (ecl p' c' n' (.slice none 0 0)) 24)) (markTS_nil none 0 19 _))
  have o0 := Lib.hid (Own.new w (dkl p c n (.slice (some ⟨g, 0, none⟩) 1 cap) p' c' n' (.slice none 0 0)) 26)
  have b0 := Lib.hid (bel1 w (.cells (dkl p c n (.slice (some ⟨g, 0, none⟩) 1 cap) p' c' n' (.slice none 0 0)) 26))
  have hgl := hM.lt
  have HM := Lib.hid (fun (A B : Obj) => (hM.below (bel1 w A) hM.lt).below (bel1 (w.alloc A) B) (by simp; omega))
  clear hM
  unfold ecl at *
  go_enter Try.func12, Try.ntmps12
  go_wp2_with (first
    | (refine wpList_load_at rfl 24 (.tmp 9) rfl ⟨w.heap.size, 4, none⟩ (by first | rfl | simp) _ _ hO1.dk2 Try.underlying24 rfl (by kernel_rfl) ?_)
    | (refine wpList_load_at rfl 24 (.tmp 5) rfl ⟨w.heap.size, 0, none⟩ (by first | rfl | simp) _ _ o0.out.dk1 Try.underlying24 rfl (by kernel_rfl) ?_)
    | (go_at_call 23; ((with_reducible refine (h2.out w1).mono ?_); rintro e w2 ⟨rfl, rfl⟩))
    | (go_at_call 23; ((with_reducible refine (h1.out _ (HM.out _ _)).mono ?_); rintro e w1 ⟨rfl, hM1, hN1⟩; have hO1 := (o0.out.alloc (.cells #[.int .i64 p, .int .i64 c, .int .i64 n, .slice (some ⟨g, 0, none⟩) 1 cap] 24)).only hN1 (by omega))))
  go_ret
  exact ⟨rfl, hM1.below (bel1 w1 _) hM1.lt, _, b0.out.trans ((bel1 _ _).mono b0.out.size), w1, hN1, by rw [hN1.size]; exact Nat.le_refl _, bel1 w1 _⟩
set_option maxRecDepth 100000 in
set_option maxHeartbeats 1000000 in
theorem heldDk1 (p c n p' c' n' : Int) (g cap S : Nat) (w : World) (hM : Mkw w g S 1 18) :
    Calls Try.prog 13 #[.agg (dkl p c n (.slice (some ⟨g, 0, none⟩) 1 cap) p' c' n' (.slice none 0 0)), .int .i64 1] w fun e w' => e = .returned (.int .i64 19) ∧ Below w.heap.size w w' := by
  have h1 := Lib.hid (fun w (hM : Mkw (w.alloc (.cells (ecl p c n (.slice (some ⟨g, 0, none⟩) 1 cap)) 24)) g S 1 18) => show Calls Try.prog 24 #[.agg (ecl p c n (.slice (some ⟨g, 0, none⟩) 1 cap)), .int .i64 1] w fun e w' => e = .returned (.int .i64 19) ∧ w' = w.alloc (.cells (ecl p c n (.slice (some ⟨g, 0, none⟩) 1 cap)) 24) from heldE_abs p c n (some ⟨g, 0, none⟩) 1 cap ((1 : Nat) : Int) (((1 : Nat) : Int) + ((1 : Nat) : Int) * 18) (by omega) w (fun w' => w' = w.alloc (.cells (ecl p c n (.slice (some ⟨g, 0, none⟩) 1 cap)) 24)) (heldTS_any _ g 1 cap S 1 (by omega) (by omega) hM))
  have h2 := Lib.hid (fun w => show Calls Try.prog 24 #[.agg (ecl p' c' n' (.slice none 0 0)), .int .i64 19] w fun e w' => e = .returned (.int .i64 19) ∧ w' = w.alloc (.cells (ecl p' c' n' (.slice none 0 0)) 24) from heldE_abs p' c' n' none 0 0 ((19 : Nat) : Int) ((19 : Nat) : Int) (by omega) w (fun w' => w' = w.alloc (.cells (ecl p' c' n' (.slice none 0 0)) 24)) (heldTS_nil none 0 19 _))
  have o0 := Lib.hid (Own.new w (dkl p c n (.slice (some ⟨g, 0, none⟩) 1 cap) p' c' n' (.slice none 0 0)) 26)
  have HM := Lib.hid (fun (A B : Obj) => (hM.below (bel1 w A) hM.lt).below (bel1 (w.alloc A) B) (by have := hM.lt; simp; omega))
  have b3 := Lib.hid (fun (A B C : Obj) => bel3 w A B C)
  clear hM
  unfold ecl at *
  go_enter Try.func13, Try.ntmps13
  go_wp2_with (first
    | (refine wpList_load_at rfl 24 (.tmp 11) rfl ⟨w.heap.size, 4, none⟩ (by first | rfl | simp) _ _ (o0.out.alloc _).dk2 Try.underlying24 rfl (by kernel_rfl) ?_)
    | (refine wpList_load_at rfl 24 (.tmp 5) rfl ⟨w.heap.size, 0, none⟩ (by first | rfl | simp) _ _ o0.out.dk1 Try.underlying24 rfl (by kernel_rfl) ?_)
    | (go_at_call 24; ((with_reducible refine (h2.out _).mono ?_); rintro e w2 ⟨rfl, rfl⟩))
    | (go_at_call 24; ((with_reducible refine (h1.out _ (HM.out _ _)).mono ?_); rintro e w1 ⟨rfl, rfl⟩)))
  go_ret
  exact ⟨rfl, b3.out _ _ _⟩
end Go.Proofs.Ytdmgmhjclagnpaa
