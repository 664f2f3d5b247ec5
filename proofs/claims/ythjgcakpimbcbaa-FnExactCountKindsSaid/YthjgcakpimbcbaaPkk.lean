/- The seven kinds: the program's. -/
import Derived.Test.YthjgcakpimbcbaaPak
namespace Go.Proofs.Ythjgcakpimbcbaa
open Go.RowKit
set_option linter.unusedVariables false
/-- What a shape in memory says. -/
structure Shp (w : World) (ga gp m P : Nat) (a U W Z : List Int) : Prop where
  oa : Own w ga (mcells a) 5
  op : Own w gp (icells Z) 59
theorem Shp.below {w w' : World} {ga gp m P : Nat} {a U W Z : List Int} (h : Shp w ga gp m P a U W Z) {B : Nat} (hb : Below B w w') (hB : w.heap.size ≤ B) : Shp w' ga gp m P a U W Z :=
  ⟨h.oa.below hb (Nat.lt_of_lt_of_le h.oa.lt hB), h.op.below hb (Nat.lt_of_lt_of_le h.op.lt hB)⟩
/-- What the lists of a shape say of one another. -/
structure ShL (m P : Nat) (a U W Z : List Int) : Prop where
  al : a.length = m
  m8 : m ≤ 8
  p8 : P ≤ 8
  hz : ∀ v, v < P → Z.getD (v * 2) 0 = U.getD v 0 ∧ Z.getD (v * 2 + 1) 0 = W.getD v 0
  zl : Z.length = 2 * P
  ub : ∀ i, 0 ≤ U.getD i 0 ∧ U.getD i 0 ≤ 8
  lb : ∀ i, 0 ≤ W.getD i 0 ∧ W.getD i 0 ≤ 8
set_option maxRecDepth 100000 in
theorem motI_any (ga gp m P : Nat) (a U W Z : List Int) (r : Bool) (hr : r = true ↔ ¬ Crs a m) (hL : ShL m P a U W Z) (w : World) (hS : Shp w ga gp m P a U W Z) :
    Calls Try.prog 30 #[.agg (shc ga gp m P)] w fun e w' => e = .returned (.bool (r && kd fSmall U W P)) ∧ Below w.heap.size w w' := by
  have h1 := Lib.hid (fun w hO => planI_cr (ga := ga) (gp := gp) (P := P) hL.al hL.m8 r hr w hO)
  have h2 := Lib.hid (fun w hO => smallAll_any ga gp m P U W Z w hL.p8 hL.hz hL.zl hL.ub hL.lb hO)
  have hB0 : Below w.heap.size w (w.alloc (.cells (shc ga gp m P) 50)) := (Below.refl _ _).alloc (Nat.le_refl _) _
  have HS := Lib.hid (hS.below hB0 (Nat.le_refl _))
  have HB := Lib.hid hB0
  generalize kd fSmall U W P = s at *
  clear hr hL hS hB0
  cases r with
  | true =>
    go_enter Try.func30, Try.ntmps30
    go_wp2_with (first
      | (refine wpList_load_row_if rfl 50 _ rfl _ rfl 50 _ _ hO1 Try.underlying50 rfl (rowSh (c := shc ga gp m P) rfl) ?_)
      | (refine wpList_load_row rfl 50 _ rfl _ rfl 50 _ (0, 0) _ (Own.new _ _ _) Try.underlying50 rfl (rowSh (c := shc ga gp m P) rfl) ?_)
      | (go_at_call 28; ((with_reducible refine (h1.out _ HS.out.oa).mono ?_); rintro e w1 ⟨rfl, hB1⟩; have hS1 := HS.out.below hB1 (Nat.le_refl _); have hB2 := HB.out.trans (hB1.mono (by simp)); have hO1 := (Own.new w (shc ga gp m P) 50).below hB1 (by simp)))
      | (go_at_call 39; ((with_reducible refine (h2.out _ hS1.op).mono ?_); rintro e w3 ⟨rfl, hB3⟩)))
    go_ret
    exact ⟨rfl, hB2.trans (hB3.mono hB2.size)⟩
  | false =>
    go_enter Try.func30, Try.ntmps30
    go_wp2_with (first
      | (refine wpList_load_row rfl 50 _ rfl _ rfl 50 _ (0, 0) _ (Own.new _ _ _) Try.underlying50 rfl (rowSh (c := shc ga gp m P) rfl) ?_)
      | (go_at_call 28; ((with_reducible refine (h1.out _ HS.out.oa).mono ?_); rintro e w1 ⟨rfl, hB1⟩; have hB2 := HB.out.trans (hB1.mono (by simp)))))
    go_ret
    exact ⟨rfl, hB2⟩
set_option maxRecDepth 100000 in
theorem permI2_any (ga gp m P : Nat) (a U W Z : List Int) (hL : ShL m P a U W Z) (w : World) (hS : Shp w ga gp m P a U W Z) :
    Calls Try.prog 32 #[.agg (shc ga gp m P)] w fun e w' => e = .returned (.bool (kd fRook U W P && kd fPair U W P)) ∧ Below w.heap.size w w' := by
  have h1 := Lib.hid (fun w hO => rookI_any ga gp m P U W Z w hL.p8 hL.hz hL.zl hL.ub hL.lb hO)
  have h2 := Lib.hid (fun w hO => pairI_any ga gp m P U W Z w hL.p8 hL.hz hL.zl hL.ub hL.lb hO)
  have hB0 : Below w.heap.size w (w.alloc (.cells (shc ga gp m P) 50)) := (Below.refl _ _).alloc (Nat.le_refl _) _
  have HS := Lib.hid (hS.below hB0 (Nat.le_refl _))
  have HB := Lib.hid hB0
  generalize kd fPair U W P = s at *
  generalize kd fRook U W P = r at *
  clear hL hS hB0
  cases r with
  | true =>
    go_enter Try.func32, Try.ntmps32
    go_wp2_with (first
      | (refine wpList_load_row_if rfl 50 _ rfl _ rfl 50 _ _ hO1 Try.underlying50 rfl (rowSh (c := shc ga gp m P) rfl) ?_)
      | (refine wpList_load_row rfl 50 _ rfl _ rfl 50 _ (0, 0) _ (Own.new _ _ _) Try.underlying50 rfl (rowSh (c := shc ga gp m P) rfl) ?_)
      | (go_at_call 31; ((with_reducible refine (h1.out _ HS.out.op).mono ?_); rintro e w1 ⟨rfl, hB1⟩; have hS1 := HS.out.below hB1 (Nat.le_refl _); have hB2 := HB.out.trans (hB1.mono (by simp)); have hO1 := (Own.new w (shc ga gp m P) 50).below hB1 (by simp)))
      | (go_at_call 29; ((with_reducible refine (h2.out _ hS1.op).mono ?_); rintro e w3 ⟨rfl, hB3⟩)))
    go_ret
    exact ⟨rfl, hB2.trans (hB3.mono hB2.size)⟩
  | false =>
    go_enter Try.func32, Try.ntmps32
    go_wp2_with (first
      | (refine wpList_load_row rfl 50 _ rfl _ rfl 50 _ (0, 0) _ (Own.new _ _ _) Try.underlying50 rfl (rowSh (c := shc ga gp m P) rfl) ?_)
      | (go_at_call 31; ((with_reducible refine (h1.out _ HS.out.op).mono ?_); rintro e w1 ⟨rfl, hB1⟩; have hB2 := HB.out.trans (hB1.mono (by simp)))))
    go_ret
    exact ⟨rfl, hB2⟩
/-- The cells of a list of truths. -/
def bcl (bs : List Bool) : Array Value := (bs.map Value.bool).toArray
theorem bcl_get (bs : List Bool) (i : Nat) (h : i < bs.length) : (bcl bs)[i]? = some (.bool (bs.getD i false)) := by simp [bcl, h]
theorem bcl_set (bs : List Bool) (i : Nat) (x : Bool) : (bcl bs).setIfInBounds i (.bool x) = bcl (bs.set i x) := by simp [bcl, List.map_set]
def acc (L : List Bool) (k : Nat) : List Bool := L.take k ++ List.replicate (7 - k) false
def kl (r a b c d e : Bool) : List Bool := [r, a, r && b, c, c && a, d, e]
theorem kl_cells (r a b c d e : Bool) : bcl (kl r a b c d e) = kcells r a b c d e := rfl
theorem mkB7 : ∀ w : World, (Instr.makeSlice 39 (.int .i64 7) (.int .i64 7)).run Try.prog w = .ok (.slice (some ⟨w.heap.size, 0, none⟩) 7 7) (w.alloc (.cells (bcl (List.replicate 7 false)) 4)) := by
  intro w; kernel_rfl
theorem rowFn {c : Array Value} (h : c.size = 7) : (Try.prog.info? 54).map (·.size) = some c.size := by rw [h]; kernel_rfl
def fns : Array Value := #[.func (.func 28) #[] #[], .func (.func 29) #[] #[], .func (.func 30) #[] #[], .func (.func 31) #[] #[], .func (.func 32) #[] #[], .func (.func 33) #[] #[], .func (.func 34) #[] #[]]
theorem ix0 : ∀ w : World, (Instr.index 54 (.agg fns) (.int .i64 0)).run Try.prog w = .ok (.func (.func 28) #[] #[]) w := by intro w; kernel_rfl
theorem ix1 : ∀ w : World, (Instr.index 54 (.agg fns) (.int .i64 1)).run Try.prog w = .ok (.func (.func 29) #[] #[]) w := by intro w; kernel_rfl
theorem ix2 : ∀ w : World, (Instr.index 54 (.agg fns) (.int .i64 2)).run Try.prog w = .ok (.func (.func 30) #[] #[]) w := by intro w; kernel_rfl
theorem ix3 : ∀ w : World, (Instr.index 54 (.agg fns) (.int .i64 3)).run Try.prog w = .ok (.func (.func 31) #[] #[]) w := by intro w; kernel_rfl
theorem ix4 : ∀ w : World, (Instr.index 54 (.agg fns) (.int .i64 4)).run Try.prog w = .ok (.func (.func 32) #[] #[]) w := by intro w; kernel_rfl
theorem ix5 : ∀ w : World, (Instr.index 54 (.agg fns) (.int .i64 5)).run Try.prog w = .ok (.func (.func 33) #[] #[]) w := by intro w; kernel_rfl
theorem ix6 : ∀ w : World, (Instr.index 54 (.agg fns) (.int .i64 6)).run Try.prog w = .ok (.func (.func 34) #[] #[]) w := by intro w; kernel_rfl
set_option maxRecDepth 100000 in
set_option maxHeartbeats 8000000 in
theorem kindsOfI_any (N : Nat) (ms : List Int) (hms : ms.length = 8) (hA : Nums ms) (r : Bool) (hr : r = true ↔ ¬ Crs (arZ N ms N (2 * N)) (2 * N)) (w : World) (h1 : 1 ≤ N) (h4 : N ≤ 4) :
    Calls Try.prog 21 #[.agg (dcells N ms)] w fun e w' => ∃ g, e = .returned (.slice (some ⟨g, 0, none⟩) 7 7) ∧ w.heap.size ≤ g ∧ Own w' g (kcells r (kd fPair (upL N ms (2 * N)) (loL N ms (2 * N)) (parN ms N)) (kd fSmall (upL N ms (2 * N)) (loL N ms (2 * N)) (parN ms N)) (kd fRook (upL N ms (2 * N)) (loL N ms (2 * N)) (parN ms N)) (kd fIdeal (upL N ms (2 * N)) (loL N ms (2 * N)) (parN ms N)) (kd fUni (upL N ms (2 * N)) (loL N ms (2 * N)) (parN ms N))) 4 ∧ Below w.heap.size w w' := by
  have hl := Lib.hid hms
  have hsh := Lib.hid (fun w => shapeOf_nat N ms hms hA w h1 h4)
  have hpb := par_bd ms N h1 hA hms h4
  have hL : ShL (2 * N) (parN ms N) (arZ N ms N (2 * N)) (upL N ms (2 * N)) (loL N ms (2 * N)) (sdZ N (parN ms N) ms (2 * N)) :=
    ⟨arZ_len N ms N (2 * N), by omega, hpb.2.1, fun v hv => sd_up N (parN ms N) ms hA (2 * N) hpb.2.2 hpb.2.1 v hv, sdZ_len N (parN ms N) ms (2 * N), fun i => ⟨(upL_bd N ms (2 * N) i).1, by have := (upL_bd N ms (2 * N) i).2; omega⟩, fun i => ⟨(loL_bd N ms (2 * N) i).1, by have := (loL_bd N ms (2 * N) i).2; omega⟩⟩
  generalize sdZ N (parN ms N) ms (2 * N) = Z at *
  generalize arZ N ms N (2 * N) = a at *
  generalize parN ms N = P at *
  generalize upL N ms (2 * N) = U at *
  generalize loL N ms (2 * N) = W at *
  have f0 := Lib.hid (fun ga gp w (hS : Shp w ga gp (2 * N) P a U W Z) => planI_cr (ga := ga) (gp := gp) (P := P) hL.al hL.m8 r hr w hS.oa)
  have f1 := Lib.hid (fun ga gp w (hS : Shp w ga gp (2 * N) P a U W Z) => pairI_any ga gp (2 * N) P U W Z w hL.p8 hL.hz hL.zl hL.ub hL.lb hS.op)
  have f2 := Lib.hid (fun ga gp w (hS : Shp w ga gp (2 * N) P a U W Z) => motI_any ga gp (2 * N) P a U W Z r hr hL w hS)
  have f3 := Lib.hid (fun ga gp w (hS : Shp w ga gp (2 * N) P a U W Z) => rookI_any ga gp (2 * N) P U W Z w hL.p8 hL.hz hL.zl hL.ub hL.lb hS.op)
  have f4 := Lib.hid (fun ga gp w (hS : Shp w ga gp (2 * N) P a U W Z) => permI2_any ga gp (2 * N) P a U W Z hL w hS)
  have f5 := Lib.hid (fun ga gp w (hS : Shp w ga gp (2 * N) P a U W Z) => idealI_any ga gp (2 * N) P U W Z w hL.p8 hL.hz hL.zl hL.ub hL.lb hS.op)
  have f6 := Lib.hid (fun ga gp w (hS : Shp w ga gp (2 * N) P a U W Z) => uniI_any ga gp (2 * N) P U W Z w hL.p8 hL.hz hL.zl hL.ub hL.lb hS.op)
  rw [← kl_cells]
  generalize kd fPair U W P = b1 at *
  generalize kd fSmall U W P = b2 at *
  generalize kd fRook U W P = b3 at *
  generalize kd fIdeal U W P = b4 at *
  generalize kd fUni U W P = b5 at *
  have hmk := mkB7
  clear hms hA hr hpb hL
  go_enter Try.func21, Try.ntmps21
  go_wp2_with (first
    | (refine wpList_load_row rfl 38 _ rfl _ rfl 38 _ (0, 0) _ (Own.new _ _ _) Try.underlying38 rfl (rowP (d9 _ _ (hl.out))) ?_)
    | (go_at_call 27; ((with_reducible refine (hsh.out _).mono ?_); rintro e w2 ⟨ga, gp, rfl, hga, hgp, hA2, hP2, hB2⟩; have hB3 : Below w.heap.size w w2 := ((Below.refl w.heap.size w).alloc (Nat.le_refl _) _).trans (hB2.mono (by simp)); clear hB2))
    | (refine wpList_store_own rfl 50 _ _ rfl _ (shc ga gp (2 * N) P) rfl rfl 50 _ (Own.new w2 _ _) (rowSh rfl) rfl (by simp [shc, Value.oneCell']) ?_; intro w3 hO3 hN3; have hA3 := (hA2.alloc _).only hN3 (Nat.ne_of_lt hA2.lt); have hP3 := (hP2.alloc _).only hN3 (Nat.ne_of_lt hP2.lt); have hB4 := (hB3.alloc hB3.size _).trans (hN3.below.mono hB3.size))
    | (refine wpList_store_own rfl 54 _ _ rfl _ fns rfl rfl 54 _ (Own.new w3 _ _) (rowFn rfl) rfl (by simp [fns, Value.oneCell']) ?_; intro w4 hO4 hN4; have hF4 := hO4; have hS4 := (hO3.alloc _).only hN4 (Nat.ne_of_lt hO3.lt); have hA4 := (hA3.alloc _).only hN4 (Nat.ne_of_lt hA3.lt); have hP4 := (hP3.alloc _).only hN4 (Nat.ne_of_lt hP3.lt); have hB5 := (hB4.alloc hB4.size _).trans (hN4.below.mono hB4.size))
    | (refine wpList_load_row rfl 54 _ rfl _ rfl 54 _ (0, 0) _ (hF4.alloc _) Try.underlying54 rfl (rowFn (c := fns) rfl) ?_))
  have HG := Lib.hid (show Own (w4.alloc (.cells (bcl (List.replicate 7 false)) 4)) w4.heap.size (bcl (acc (kl r b1 b2 b3 b4 b5) 0)) 4 from Own.new _ _ _)
  have HS := Lib.hid (show Own (w4.alloc (.cells (bcl (List.replicate 7 false)) 4)) w2.heap.size (shc ga gp (2 * N) P) 50 from hS4.alloc _)
  have HQ := Lib.hid (show Shp (w4.alloc (.cells (bcl (List.replicate 7 false)) 4)) ga gp (2 * N) P a U W Z from ⟨hA4.alloc _, hP4.alloc _⟩)
  have HB := Lib.hid (show Below w.heap.size w (w4.alloc (.cells (bcl (List.replicate 7 false)) 4)) from hB5.alloc hB5.size _)
  have n1 : w2.heap.size ≠ w4.heap.size := Nat.ne_of_lt hS4.lt
  have n2 : ga ≠ w4.heap.size := Nat.ne_of_lt hA4.lt
  have n3 : gp ≠ w4.heap.size := Nat.ne_of_lt hP4.lt
  have n4 : w.heap.size ≤ w4.heap.size := hB5.size
  clear hmk hO4 hN4 hF4 hS4 hA4 hP4 hB5 hO3 hN3 hA3 hP3 hB4 hA2 hP2 hB3
  generalize w4.heap.size = g at *
  generalize w2.heap.size = b at *
  go_loopw [13] (fun i wr => ∃ k : Nat, k ≤ 7 ∧ i = .int .i64 k ∧ Own wr g (bcl (acc (kl r b1 b2 b3 b4 b5) k)) 4 ∧ Own wr b (shc ga gp (2 * N) P) 50 ∧ Shp wr ga gp (2 * N) P a U W Z ∧ Below w.heap.size w wr) (fun i _ => ((7 : Int) - intOf i).toNat)
  case atStart => exact ⟨0, by omega, rfl, HG.out, HS.out, HQ.out, HB.out⟩
  case round =>
    clear HG HS HQ HB
    obtain ⟨k, hk, rfl, hG, hS, hQ, hB⟩ := hrel
    have HG := Lib.hid hG
    have HS := Lib.hid hS
    have HQ := Lib.hid hQ
    have HB := Lib.hid hB
    clear hG hS hQ hB
    have hk7 : k = 0 ∨ k = 1 ∨ k = 2 ∨ k = 3 ∨ k = 4 ∨ k = 5 ∨ k = 6 ∨ k = 7 := by omega
    rcases hk7 with rfl | rfl | rfl | rfl | rfl | rfl | rfl | rfl
    · have hix := ix0
      go_wp2_with (first
        | (refine wpList_load_row rfl 50 _ rfl _ rfl 50 _ (0, 0) _ HS.out Try.underlying50 rfl (rowSh (c := shc ga gp (2 * N) P) rfl) ?_)
        | (go_at_call 28; ((with_reducible refine (f0.out ga gp _ HQ.out).mono ?_); rintro e w5 ⟨rfl, hB5⟩; have hG5 := HG.out.below hB5 HG.out.lt; have hs5 := hG5.set 0 (.bool ((kl r b1 b2 b3 b4 b5).getD 0 false)); have q2 := hG5.free 0; have HG6 := Lib.hid hs5; have HS6 := Lib.hid ((HS.out.below hB5 HS.out.lt).other (a := ⟨g, 0, none⟩) n1.symm (.bool ((kl r b1 b2 b3 b4 b5).getD 0 false))); have HQ6 := Lib.hid (show Shp (w5.setCell ⟨g, 0, none⟩ (.bool ((kl r b1 b2 b3 b4 b5).getD 0 false))) ga gp (2 * N) P a U W Z from ⟨(HQ.out.oa.below hB5 HQ.out.oa.lt).other (a := ⟨g, 0, none⟩) n2.symm _, (HQ.out.op.below hB5 HQ.out.op.lt).other (a := ⟨g, 0, none⟩) n3.symm _⟩); have HB6 := Lib.hid ((HB.out.trans (hB5.mono HB.out.size)).setCell (p := ⟨g, 0, none⟩) n4 (.bool ((kl r b1 b2 b3 b4 b5).getD 0 false))); have q1 := hG5.cell 0; clear hs5 hG5 hB5)))
      go_roundw
      case rel => exact ⟨1, by omega, rfl, HG6.out, HS6.out, HQ6.out, HB6.out⟩
      case measure => simp [intOf]
    · have hix := ix1
      go_wp2_with (first
        | (refine wpList_load_row rfl 50 _ rfl _ rfl 50 _ (0, 0) _ HS.out Try.underlying50 rfl (rowSh (c := shc ga gp (2 * N) P) rfl) ?_)
        | (go_at_call 29; ((with_reducible refine (f1.out ga gp _ HQ.out).mono ?_); rintro e w5 ⟨rfl, hB5⟩; have hG5 := HG.out.below hB5 HG.out.lt; have hs5 := hG5.set 1 (.bool ((kl r b1 b2 b3 b4 b5).getD 1 false)); have q2 := hG5.free 1; have HG6 := Lib.hid hs5; have HS6 := Lib.hid ((HS.out.below hB5 HS.out.lt).other (a := ⟨g, 1, none⟩) n1.symm (.bool ((kl r b1 b2 b3 b4 b5).getD 1 false))); have HQ6 := Lib.hid (show Shp (w5.setCell ⟨g, 1, none⟩ (.bool ((kl r b1 b2 b3 b4 b5).getD 1 false))) ga gp (2 * N) P a U W Z from ⟨(HQ.out.oa.below hB5 HQ.out.oa.lt).other (a := ⟨g, 1, none⟩) n2.symm _, (HQ.out.op.below hB5 HQ.out.op.lt).other (a := ⟨g, 1, none⟩) n3.symm _⟩); have HB6 := Lib.hid ((HB.out.trans (hB5.mono HB.out.size)).setCell (p := ⟨g, 1, none⟩) n4 (.bool ((kl r b1 b2 b3 b4 b5).getD 1 false))); have q1 := hG5.cell 1; clear hs5 hG5 hB5)))
      go_roundw
      case rel => exact ⟨2, by omega, rfl, HG6.out, HS6.out, HQ6.out, HB6.out⟩
      case measure => simp [intOf]
    · have hix := ix2
      go_wp2_with (first
        | (refine wpList_load_row rfl 50 _ rfl _ rfl 50 _ (0, 0) _ HS.out Try.underlying50 rfl (rowSh (c := shc ga gp (2 * N) P) rfl) ?_)
        | (go_at_call 30; ((with_reducible refine (f2.out ga gp _ HQ.out).mono ?_); rintro e w5 ⟨rfl, hB5⟩; have hG5 := HG.out.below hB5 HG.out.lt; have hs5 := hG5.set 2 (.bool ((kl r b1 b2 b3 b4 b5).getD 2 false)); have q2 := hG5.free 2; have HG6 := Lib.hid hs5; have HS6 := Lib.hid ((HS.out.below hB5 HS.out.lt).other (a := ⟨g, 2, none⟩) n1.symm (.bool ((kl r b1 b2 b3 b4 b5).getD 2 false))); have HQ6 := Lib.hid (show Shp (w5.setCell ⟨g, 2, none⟩ (.bool ((kl r b1 b2 b3 b4 b5).getD 2 false))) ga gp (2 * N) P a U W Z from ⟨(HQ.out.oa.below hB5 HQ.out.oa.lt).other (a := ⟨g, 2, none⟩) n2.symm _, (HQ.out.op.below hB5 HQ.out.op.lt).other (a := ⟨g, 2, none⟩) n3.symm _⟩); have HB6 := Lib.hid ((HB.out.trans (hB5.mono HB.out.size)).setCell (p := ⟨g, 2, none⟩) n4 (.bool ((kl r b1 b2 b3 b4 b5).getD 2 false))); have q1 := hG5.cell 2; clear hs5 hG5 hB5)))
      go_roundw
      case rel => exact ⟨3, by omega, rfl, HG6.out, HS6.out, HQ6.out, HB6.out⟩
      case measure => simp [intOf]
    · have hix := ix3
      go_wp2_with (first
        | (refine wpList_load_row rfl 50 _ rfl _ rfl 50 _ (0, 0) _ HS.out Try.underlying50 rfl (rowSh (c := shc ga gp (2 * N) P) rfl) ?_)
        | (go_at_call 31; ((with_reducible refine (f3.out ga gp _ HQ.out).mono ?_); rintro e w5 ⟨rfl, hB5⟩; have hG5 := HG.out.below hB5 HG.out.lt; have hs5 := hG5.set 3 (.bool ((kl r b1 b2 b3 b4 b5).getD 3 false)); have q2 := hG5.free 3; have HG6 := Lib.hid hs5; have HS6 := Lib.hid ((HS.out.below hB5 HS.out.lt).other (a := ⟨g, 3, none⟩) n1.symm (.bool ((kl r b1 b2 b3 b4 b5).getD 3 false))); have HQ6 := Lib.hid (show Shp (w5.setCell ⟨g, 3, none⟩ (.bool ((kl r b1 b2 b3 b4 b5).getD 3 false))) ga gp (2 * N) P a U W Z from ⟨(HQ.out.oa.below hB5 HQ.out.oa.lt).other (a := ⟨g, 3, none⟩) n2.symm _, (HQ.out.op.below hB5 HQ.out.op.lt).other (a := ⟨g, 3, none⟩) n3.symm _⟩); have HB6 := Lib.hid ((HB.out.trans (hB5.mono HB.out.size)).setCell (p := ⟨g, 3, none⟩) n4 (.bool ((kl r b1 b2 b3 b4 b5).getD 3 false))); have q1 := hG5.cell 3; clear hs5 hG5 hB5)))
      go_roundw
      case rel => exact ⟨4, by omega, rfl, HG6.out, HS6.out, HQ6.out, HB6.out⟩
      case measure => simp [intOf]
    · have hix := ix4
      go_wp2_with (first
        | (refine wpList_load_row rfl 50 _ rfl _ rfl 50 _ (0, 0) _ HS.out Try.underlying50 rfl (rowSh (c := shc ga gp (2 * N) P) rfl) ?_)
        | (go_at_call 32; ((with_reducible refine (f4.out ga gp _ HQ.out).mono ?_); rintro e w5 ⟨rfl, hB5⟩; have hG5 := HG.out.below hB5 HG.out.lt; have hs5 := hG5.set 4 (.bool ((kl r b1 b2 b3 b4 b5).getD 4 false)); have q2 := hG5.free 4; have HG6 := Lib.hid hs5; have HS6 := Lib.hid ((HS.out.below hB5 HS.out.lt).other (a := ⟨g, 4, none⟩) n1.symm (.bool ((kl r b1 b2 b3 b4 b5).getD 4 false))); have HQ6 := Lib.hid (show Shp (w5.setCell ⟨g, 4, none⟩ (.bool ((kl r b1 b2 b3 b4 b5).getD 4 false))) ga gp (2 * N) P a U W Z from ⟨(HQ.out.oa.below hB5 HQ.out.oa.lt).other (a := ⟨g, 4, none⟩) n2.symm _, (HQ.out.op.below hB5 HQ.out.op.lt).other (a := ⟨g, 4, none⟩) n3.symm _⟩); have HB6 := Lib.hid ((HB.out.trans (hB5.mono HB.out.size)).setCell (p := ⟨g, 4, none⟩) n4 (.bool ((kl r b1 b2 b3 b4 b5).getD 4 false))); have q1 := hG5.cell 4; clear hs5 hG5 hB5)))
      go_roundw
      case rel => exact ⟨5, by omega, rfl, HG6.out, HS6.out, HQ6.out, HB6.out⟩
      case measure => simp [intOf]
    · have hix := ix5
      go_wp2_with (first
        | (refine wpList_load_row rfl 50 _ rfl _ rfl 50 _ (0, 0) _ HS.out Try.underlying50 rfl (rowSh (c := shc ga gp (2 * N) P) rfl) ?_)
        | (go_at_call 33; ((with_reducible refine (f5.out ga gp _ HQ.out).mono ?_); rintro e w5 ⟨rfl, hB5⟩; have hG5 := HG.out.below hB5 HG.out.lt; have hs5 := hG5.set 5 (.bool ((kl r b1 b2 b3 b4 b5).getD 5 false)); have q2 := hG5.free 5; have HG6 := Lib.hid hs5; have HS6 := Lib.hid ((HS.out.below hB5 HS.out.lt).other (a := ⟨g, 5, none⟩) n1.symm (.bool ((kl r b1 b2 b3 b4 b5).getD 5 false))); have HQ6 := Lib.hid (show Shp (w5.setCell ⟨g, 5, none⟩ (.bool ((kl r b1 b2 b3 b4 b5).getD 5 false))) ga gp (2 * N) P a U W Z from ⟨(HQ.out.oa.below hB5 HQ.out.oa.lt).other (a := ⟨g, 5, none⟩) n2.symm _, (HQ.out.op.below hB5 HQ.out.op.lt).other (a := ⟨g, 5, none⟩) n3.symm _⟩); have HB6 := Lib.hid ((HB.out.trans (hB5.mono HB.out.size)).setCell (p := ⟨g, 5, none⟩) n4 (.bool ((kl r b1 b2 b3 b4 b5).getD 5 false))); have q1 := hG5.cell 5; clear hs5 hG5 hB5)))
      go_roundw
      case rel => exact ⟨6, by omega, rfl, HG6.out, HS6.out, HQ6.out, HB6.out⟩
      case measure => simp [intOf]
    · have hix := ix6
      go_wp2_with (first
        | (refine wpList_load_row rfl 50 _ rfl _ rfl 50 _ (0, 0) _ HS.out Try.underlying50 rfl (rowSh (c := shc ga gp (2 * N) P) rfl) ?_)
        | (go_at_call 34; ((with_reducible refine (f6.out ga gp _ HQ.out).mono ?_); rintro e w5 ⟨rfl, hB5⟩; have hG5 := HG.out.below hB5 HG.out.lt; have hs5 := hG5.set 6 (.bool ((kl r b1 b2 b3 b4 b5).getD 6 false)); have q2 := hG5.free 6; have HG6 := Lib.hid hs5; have HS6 := Lib.hid ((HS.out.below hB5 HS.out.lt).other (a := ⟨g, 6, none⟩) n1.symm (.bool ((kl r b1 b2 b3 b4 b5).getD 6 false))); have HQ6 := Lib.hid (show Shp (w5.setCell ⟨g, 6, none⟩ (.bool ((kl r b1 b2 b3 b4 b5).getD 6 false))) ga gp (2 * N) P a U W Z from ⟨(HQ.out.oa.below hB5 HQ.out.oa.lt).other (a := ⟨g, 6, none⟩) n2.symm _, (HQ.out.op.below hB5 HQ.out.op.lt).other (a := ⟨g, 6, none⟩) n3.symm _⟩); have HB6 := Lib.hid ((HB.out.trans (hB5.mono HB.out.size)).setCell (p := ⟨g, 6, none⟩) n4 (.bool ((kl r b1 b2 b3 b4 b5).getD 6 false))); have q1 := hG5.cell 6; clear hs5 hG5 hB5)))
      go_roundw
      case rel => exact ⟨7, by omega, rfl, HG6.out, HS6.out, HQ6.out, HB6.out⟩
      case measure => simp [intOf]
    · go_wp2
      go_ret
      exact ⟨g, rfl, n4, HG.out, HB.out⟩
end Go.Proofs.Ythjgcakpimbcbaa
