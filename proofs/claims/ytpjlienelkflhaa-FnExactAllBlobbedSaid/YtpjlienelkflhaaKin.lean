/- The program's kinds of lines, and blobs laid on a line. -/
import Derived.Test.YtpjlienelkflhaaBlc
import Derived.Deep.CutRange
namespace Go.Proofs.Ytpjlienelkflhaa
open Go.RowKit
set_option linter.unusedVariables false
set_option linter.unusedSimpArgs false
/-- A world is known by what holds in it. -/
theorem gen_world {P : Program} {c : Code} {Q : Exit → Act → World → Prop} {a : Act} {W : World} (S : World → Prop) (h : S W) (k : ∀ x, S x → c.wp P Q a x) : c.wp P Q a W := k W h
/-- A blob on the line of two points. -/
def wbl (bs : List Bool) (p m : Int) : List Bool := (bs.set p.toNat true).set m.toNat true
theorem wbl_len (bs : List Bool) (p m : Int) : (wbl bs p m).length = bs.length := by simp [wbl]
set_option maxRecDepth 100000 in
set_option maxHeartbeats 1000000 in
theorem withB_any (n : Int) (ms : List Int) (bs : List Bool) (hms : ms.length = 16) (hbs : bs.length = 16) (p m : Int) (h0 : 0 ≤ p) (h16 : p < 16) (hm : mate ms p = m) (m0 : 0 ≤ m) (m16 : m < 16) (w : World) :
    Calls Try.prog 53 #[.agg (bcl n ms bs), .int .i64 p] w fun e w' => e = .returned (.agg (bcl n ms (wbl bs p m))) ∧ Below w.heap.size w w' := by
  have hl := Lib.hid hms
  have hk := Lib.hid hbs
  have hL2 := Lib.hid (show (wbl bs p m).length = 16 by rw [wbl_len]; exact hbs)
  have hM := Lib.hid hm
  clear hms hbs hm
  go_enter Try.func53, Try.ntmps53
  go_upto_region 1 with fail
  refine gen_world (fun x => Own x w.heap.size (bcl n ms bs) 64 ∧ Own x (w.heap.size + 1) zbl 64 ∧ Below w.heap.size w x) ⟨(Own.new _ _ _).alloc _, Own.at _ _ _ (by simp), ((Below.refl _ _).alloc (Nat.le_refl _) _).alloc (by simp) _⟩ ?_
  rintro w1 ⟨hO, hZ, hB⟩
  have c1 : w1.cell? ⟨w.heap.size, 1 + p.toNat, none⟩ = some (.int .u8 m) := by
    have := hM.out
    unfold mate at this
    rw [hO.cell, bcl_mate _ _ _ _ (by rw [hl.out]; omega), this]
  have c2 : w1.cell? ⟨w.heap.size, 17 + p.toNat, none⟩ = some (.bool (bs.getD p.toNat false)) := by rw [hO.cell, bcl_blob _ _ _ hl.out _ (by rw [hk.out]; omega)]
  have f2 := hO.free (17 + p.toNat)
  have hO2 := hO.set (17 + p.toNat) (.bool true)
  rw [bcl_set _ _ _ hl.out] at hO2
  have c3 : (w1.setCell ⟨w.heap.size, 17 + p.toNat, none⟩ (.bool true)).cell? ⟨w.heap.size, 17 + m.toNat, none⟩ = some (.bool ((bs.set p.toNat true).getD m.toNat false)) := by rw [hO2.cell, bcl_blob _ _ _ hl.out _ (by rw [List.length_set, hk.out]; omega)]
  have f3 := hO2.free (17 + m.toNat)
  have hO3 := hO2.set (17 + m.toNat) (.bool true)
  rw [bcl_set _ _ _ hl.out] at hO3
  have K1 := Lib.hid (show Own ((w1.setCell ⟨w.heap.size, 17 + p.toNat, none⟩ (.bool true)).setCell ⟨w.heap.size, 17 + m.toNat, none⟩ (.bool true)) w.heap.size (bcl n ms (wbl bs p m)) 64 from hO3)
  have K2 := Lib.hid ((hZ.other (a := ⟨w.heap.size, 17 + p.toNat, none⟩) (by simp) (.bool true)).other (a := ⟨w.heap.size, 17 + m.toNat, none⟩) (by simp) (.bool true))
  have K3 := Lib.hid ((hB.setCell (p := ⟨w.heap.size, 17 + p.toNat, none⟩) (Nat.le_refl _) (.bool true)).setCell (p := ⟨w.heap.size, 17 + m.toNat, none⟩) (Nat.le_refl _) (.bool true))
  clear hO hO2 hO3 hZ hB
  go_wp2_with (first
    | (refine wpList_load_row rfl 64 _ rfl _ rfl 64 _ (0, 0) _ (K1.out) Try.underlying64 rfl (rowB (b33 _ _ _ (hl.out) (hL2.out))) ?_)
    | (refine wpList_store_own rfl 64 _ _ rfl _ _ rfl rfl 64 _ (K2.out) (rowB (b33 _ _ _ (hl.out) (hL2.out))) (zb _ _ _ hl.out hL2.out) (bcl_one _ _ _) ?_; intro w4 hO4 hN4))
  refine bodyPost_ret (v := .agg (bcl n ms (wbl bs p m))) (results_cell_row rfl _ _ _ _ _ (0, 0) _ rfl (hO4) Try.underlying64 rfl (rowB (b33 _ _ _ (hl.out) (hL2.out)))) rfl (⟨rfl, K3.out.trans (hN4.below.mono (Nat.le_succ _))⟩)
end Go.Proofs.Ytpjlienelkflhaa
