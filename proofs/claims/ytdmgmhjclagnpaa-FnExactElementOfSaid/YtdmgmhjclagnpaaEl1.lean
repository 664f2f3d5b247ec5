/- Elements of no terms, and of one. -/
import Derived.Test.YtdmgmhjclagnpaaRowT
import Derived.Test.YtdmgmhjclagnpaaSpecB
import Derived.Test.YtdmgmhjclagnpaaImplB
import Derived.Test.YtdmgmhjclagnpaaOnS
namespace Go.Proofs.Ytdmgmhjclagnpaa
open Go.RowKit
set_option linter.unusedVariables false
set_option linter.unusedSimpArgs false
theorem builtT (n : Int) (ms : List Int) (h : ms.length = 16) (k : Int) : Try.prog.built 66 [(0, .agg (dcells n ms)), (1, .int .i64 k)] = some (tcl (n, ms, k)).toArray := by
  obtain ⟨a0, a1, a2, a3, a4, a5, a6, a7, a8, a9, b0, b1, b2, b3, b4, b5, rfl⟩ := list16 ms h
  kernel_rfl
theorem mkT1 (n : Int) (ms : List Int) (h : ms.length = 16) (k : Int) : ∀ w : World, (Instr.buildSlice 22 1 #[(0, .agg (tcl (n, ms, k)).toArray)]).run Try.prog w = .ok (.slice (some ⟨w.heap.size, 0, none⟩) 1 1) (w.alloc (.cells (tcl (n, ms, k)).toArray 66)) := by
  obtain ⟨a0, a1, a2, a3, a4, a5, a6, a7, a8, a9, b0, b1, b2, b3, b4, b5, rfl⟩ := list16 ms h
  intro w; kernel_rfl
theorem mkT0 : ∀ w : World, (Instr.buildSlice 22 0 #[]).run Try.prog w = .ok (.slice (some ⟨w.heap.size, 0, none⟩) 0 0) (w.alloc (.cells #[] 66)) := by
  intro w; kernel_rfl
theorem one_flat (w : World) (t : Tm) : ∀ i u, (tsl [t])[i]? = some u → (w.alloc (.cells (tcl t).toArray 66)).cell? ((⟨w.heap.size, 0, none⟩ : Addr).add i) = some u := fun i u hu => by
  rw [Addr.add_mid, Nat.zero_add, (Own.new w (tcl t).toArray 66).cell, List.getElem?_toArray]
  have : tsl [t] = tcl t := by simp [tsl]
  rw [← this]; exact hu
theorem builtE (p c n : Int) (q : Option Addr) (l cap : Nat) : Try.prog.built 24 [(0, .int .i64 p), (1, .int .i64 c), (2, .int .i64 n), (3, .slice q l cap)] = some (ecl p c n (.slice q l cap)) := by kernel_rfl
theorem builtE0 (p c n : Int) : Try.prog.built 24 [(0, .int .i64 p), (1, .int .i64 c), (2, .int .i64 n)] = some (ecl p c n (.slice none 0 0)) := by kernel_rfl
theorem infoE : (Try.prog.info? 24).map (·.size) = some 4 := by kernel_rfl
theorem ecl_one (p c n : Int) (q : Option Addr) (l cap : Nat) : (ecl p c n (.slice q l cap)).all (·.oneCell') = true := by simp [ecl, Value.oneCell']
set_option maxRecDepth 100000 in
set_option maxHeartbeats 1000000 in
theorem likeI_any (p c n : Int) (q : Option Addr) (l cap : Nat) (dn : Int) (ms : List Int) (hms : ms.length = 16) (w : World) :
    Calls Try.prog 63 #[.agg (ecl p c n (.slice q l cap)), .agg (dcells dn ms)] w fun e w' => ∃ g, e = .returned (.agg (ecl p c n (.slice (some ⟨g, 0, none⟩) 1 1))) ∧ w.heap.size ≤ g ∧ Own w' g (tcl (dn, ms, 1)).toArray 66 ∧ Below w.heap.size w w' := by
  have hl := Lib.hid hms
  have hb := Lib.hid (builtT dn ms hms 1)
  have hm1 := Lib.hid (mkT1 dn ms hms 1)
  have oR := Lib.hid (fun (A B C : Obj) (cs : Array Value) => show Own ((((w.alloc A).alloc B).alloc (.cells cs 24)).alloc C) (w.heap.size + 1 + 1) cs 24 from (Own.at ((w.alloc A).alloc B) cs 24 (by simp)).alloc C)
  have oT := Lib.hid (fun (A B C : Obj) (cs : Array Value) => show Own ((((w.alloc A).alloc B).alloc C).alloc (.cells cs 66)) (w.heap.size + 1 + 1 + 1) cs 66 from Own.at (((w.alloc A).alloc B).alloc C) cs 66 (by simp))
  have b4 := Lib.hid (fun (A B C D : Obj) => show Below w.heap.size w ((((w.alloc A).alloc B).alloc C).alloc D) from ((((Below.refl _ w).alloc (Nat.le_refl _) A).alloc (by simp) B).alloc (by simp; omega) C).alloc (by simp; omega) D)
  have oD := Lib.hid (fun (A C : Obj) => (Own.at (w.alloc A) (dcells dn ms) 53 (by simp : _ = w.heap.size + 1)).alloc C)
  clear hms
  unfold ecl at *
  go_enter Try.func63, Try.ntmps63
  go_wp2_with (first
    | (refine wpList_load_row rfl 53 _ rfl _ rfl 53 _ (0, 0) _ (oD.out _ _) Try.underlying53 rfl (row26 (d17 _ _ (hl.out))) ?_)
    | (refine wpList_build_of rfl 66 #[(0, .tmp 11), (1, .const (.int .i64 1))] rfl (tcl (dn, ms, 1)).toArray ?_ ?_; (exact hb.out))
    | (refine wpList_mkslice rfl 22 (.tmp 12) rfl (.agg (tcl (dn, ms, 1)).toArray) _ rfl (hm1.out _) ?_))
  refine bodyPost_ret (v := .agg #[.int .i64 p, .int .i64 c, .int .i64 n, .slice (some ⟨w.heap.size + 1 + 1 + 1, 0, none⟩) 1 1]) (results_cell_row rfl _ _ _ _ _ (0, 0) _ rfl (oR.out _ _ _ _) Try.underlying24 rfl (by kernel_rfl)) rfl ⟨_, rfl, by omega, oT.out _ _ _ _, b4.out _ _ _ _⟩
end Go.Proofs.Ytdmgmhjclagnpaa
