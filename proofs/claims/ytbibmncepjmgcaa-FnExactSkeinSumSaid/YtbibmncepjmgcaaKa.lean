/- Words and small laws of memory blocks that the walks of this seat share: a block of cells that the call owns, and the cells of a diagram. Contracts of the model's smallest functions: ranges, and two points joined. Contracts of the program's smallest functions: sizes, new lists of mates, two points joined, a diagram out of its mates. Words and laws of a slice of int64 that the call itself made: as a list of numbers, through an append, a read and a pop. The plain function that reads a text as a diagram, and its laws. Contracts of the program's reading of texts. Contracts of the model's reading of texts. Contracts of the model's unit and generators, as diagrams and with their codes. Contracts of the program's unit and generators, with their codes. Contracts of the comparisons that the exact laws use. Contracts of the laws' own copies of diagrams. -/
import Derived.Test.YtbibmncepjmgcaaRows
import Derived.WalkKit
import Derived.WalkSpells
import Derived.WalkLawsBesides
import Derived.Lib.Hide
import Derived.Deep.MidRow
import Derived.Deep.Draws
import Derived.WalkSmall
import Derived.StillTailTactics
import Derived.Deep.QuietTactic
import Derived.BigQuiet
namespace Go.Proofs.Ytbibmncepjmgcaa
open Go.RowKit

/-- The cells of a list of bytes, of a list of mates in a slice. -/
def mcells (ms : List Int) : Array Value := (ms.map (Value.int .u8)).toArray
/-- The cells of a diagram. -/
def dcells (n : Int) (ms : List Int) : Array Value := (Value.int .i64 n :: ms.map (Value.int .u8)).toArray
/-- A diagram as a value. -/
def dval (n : Int) (ms : List Int) : Value := .agg (dcells n ms)

/-- A block of cells that is not frozen. -/
def Own (w : World) (b : Nat) (cs : Array Value) (t : TypeId) : Prop := w.heap[b]? = some (.cells cs t (0, 0))

theorem Own.cell {w : World} {b : Nat} {cs : Array Value} {t : TypeId} (h : Own w b cs t) (i : Nat) : w.cell? ⟨b, i, none⟩ = cs[i]? := by
  simp [World.cell?, show w.heap[b]? = _ from h]
theorem Own.free {w : World} {b : Nat} {cs : Array Value} {t : TypeId} (h : Own w b cs t) (i : Nat) : w.frozen? ⟨b, i, none⟩ = false := by
  simp [World.frozen?, show w.heap[b]? = _ from h]
theorem Own.lt {w : World} {b : Nat} {cs : Array Value} {t : TypeId} (h : Own w b cs t) : b < w.heap.size := lt_of_block h
theorem Own.set {w : World} {b : Nat} {cs : Array Value} {t : TypeId} (h : Own w b cs t) (i : Nat) (v : Value) : Own (w.setCell ⟨b, i, none⟩ v) b (cs.setIfInBounds i v) t := by
  have hlt := h.lt
  have h' : w.heap[b] = .cells cs t (0, 0) := by have := show w.heap[b]? = _ from h; simpa [Array.getElem?_eq_getElem hlt] using this
  show (w.heap.modify b _)[b]? = _
  rw [Array.getElem?_eq_getElem (by simpa using hlt), Array.getElem_modify_self, h']
  rfl
theorem Own.other {w : World} {b : Nat} {cs : Array Value} {t : TypeId} (h : Own w b cs t) {a : Addr} (ha : a.block ≠ b) (v : Value) : Own (w.setCell a v) b cs t := by
  show (w.setCell a v).heap[b]? = _
  rw [Below.heap_setCell _ _ _ _ (fun e => ha e.symm)]; exact h
theorem Own.new (w : World) (cs : Array Value) (t : TypeId) : Own (w.alloc (.cells cs t)) w.heap.size cs t := heap_alloc_new w _
theorem Own.at (w : World) (cs : Array Value) (t : TypeId) {b : Nat} (h : w.heap.size = b) : Own (w.alloc (.cells cs t)) b cs t := by subst h; exact heap_alloc_new w _
theorem Own.alloc {w : World} {b : Nat} {cs : Array Value} {t : TypeId} (h : Own w b cs t) (o : Obj) : Own (w.alloc o) b cs t := by
  show (w.alloc o).heap[b]? = _
  rw [Below.heap_alloc w o b h.lt]; exact h
theorem Own.below {w w' : World} {b B : Nat} {cs : Array Value} {t : TypeId} (h : Own w b cs t) (hb : Below B w w') (hB : b < B) : Own w' b cs t := by
  show w'.heap[b]? = _
  rw [hb.block b hB]; exact h

theorem mcells_size (ms : List Int) : (mcells ms).size = ms.length := by simp [mcells]
theorem dcells_size (n : Int) (ms : List Int) : (dcells n ms).size = ms.length + 1 := by simp [dcells]
theorem mcells_get (ms : List Int) (i : Nat) (h : i < ms.length) : (mcells ms)[i]? = some (.int .u8 (ms.getD i 0)) := by
  simp [mcells, h]
theorem dcells_zero (n : Int) (ms : List Int) : (dcells n ms)[0]? = some (.int .i64 n) := by simp [dcells]
theorem dcells_get (n : Int) (ms : List Int) (i : Nat) (h : i < ms.length) : (dcells n ms)[1 + i]? = some (.int .u8 (ms.getD i 0)) := by
  rw [Nat.add_comm]; simp [dcells, h]
theorem mcells_set (ms : List Int) (i : Nat) (x : Int) : (mcells ms).setIfInBounds i (.int .u8 x) = mcells (ms.set i x) := by
  simp [mcells, List.map_set]
theorem dcells_set (n : Int) (ms : List Int) (i : Nat) (x : Int) : (dcells n ms).setIfInBounds (1 + i) (.int .u8 x) = dcells n (ms.set i x) := by
  rw [Nat.add_comm]; simp [dcells, List.map_set]
theorem dcells_setn (n n' : Int) (ms : List Int) : (dcells n ms).setIfInBounds 0 (.int .i64 n') = dcells n' ms := by
  simp [dcells]


theorem dcells_one (n : Int) (ms : List Int) : (dcells n ms).all (·.oneCell') = true := by
  simp [dcells, Value.oneCell']
theorem row26 {c : Array Value} (h : c.size = 17) : (Try.prog.info? 53).map (·.size) = some c.size := by
  rw [h]; kernel_rfl
theorem d17 (n : Int) (ms : List Int) (h : ms.length = 16) : (dcells n ms).size = 17 := by rw [dcells_size, h]

/-- Behind a store of a whole row. -/
theorem Own.row {w : World} {b : Nat} {cs : Array Value} {t : TypeId} (h : Own w b cs t) (c : Array Value) : Own (w.setRow b c) b c t := by
  have hlt := h.lt
  have h' : w.heap[b] = .cells cs t (0, 0) := by have := show w.heap[b]? = _ from h; simpa [Array.getElem?_eq_getElem hlt] using this
  show (w.heap.modify b _)[b]? = _
  rw [Array.getElem?_eq_getElem (by simpa using hlt), Array.getElem_modify_self, h']
theorem Own.rowOther {w : World} {b g : Nat} {cs : Array Value} {t : TypeId} (h : Own w b cs t) (hg : g ≠ b) (c : Array Value) : Own (w.setRow g c) b cs t := by
  show (w.heap.modify g _)[b]? = _
  rw [Array.getElem?_modify, if_neg hg]; exact h
theorem Below.row {B : Nat} {a w : World} (h : Below B a w) {g : Nat} (hg : B ≤ g) (c : Array Value) : Below B a (w.setRow g c) :=
  h.trans ⟨rfl, rfl, rfl, by simp [World.setRow], fun k hk => by simp only [World.setRow, Array.getElem?_modify]; rw [if_neg (by omega)]⟩


theorem wpList_build_of {P : Program} {ops : Array Oper} {rest : List Oper} {o : Oper} {a : Act} {w : World} {Q : Exit → Act → World → Prop} (hg : o.guard = none) (t : TypeId) (parts : Array (Nat × Operand)) (ho : o.op = .build t parts)
    (cs : Array Value) (hf : P.built t (parts.toList.map fun (i, x) => (i, a.eval x)) = some cs)
    (h : wpList P ops Q rest (a.put o.dst (.agg cs)) w) : wpList P ops Q (o :: rest) a w :=
  wpList_build hg t parts ho (by rw [Array.toList_map, hf]; rfl) (by rw [Array.toList_map, hf]; exact h)

/-- Only block b may have turned, and no block is new. -/
structure Only (b : Nat) (w w' : World) : Prop where
  below : Below b w w'
  size : w'.heap.size = w.heap.size
  other : ∀ k, k ≠ b → w'.heap[k]? = w.heap[k]?
theorem Only.refl (b : Nat) (w : World) : Only b w w := ⟨Below.refl _ _, rfl, fun _ _ => rfl⟩
theorem Only.trans {b : Nat} {u v w : World} (h : Only b u v) (k : Only b v w) : Only b u w :=
  ⟨h.below.trans k.below, k.size.trans h.size, fun i hi => (k.other i hi).trans (h.other i hi)⟩
theorem Only.set (b i : Nat) (w : World) (v : Value) : Only b w (w.setCell ⟨b, i, none⟩ v) :=
  ⟨Below.setCell (p := ⟨b, i, none⟩) (Below.refl b w) (Nat.le_refl _) v, by simp [World.setCell], fun k hk => Below.heap_setCell _ _ _ _ hk⟩
theorem Own.only {w w' : World} {b g : Nat} {cs : Array Value} {t : TypeId} (h : Own w g cs t) (ho : Only b w w') (hg : g ≠ b) : Own w' g cs t := by
  show w'.heap[g]? = _
  rw [ho.other g hg]; exact h

/-- Two points become the ends of one line. -/
def joinL (ms : List Int) (i j : Int) : List Int := (ms.set i.toNat j).set j.toNat i
theorem joinL_len (ms : List Int) (i j : Int) : (joinL ms i j).length = ms.length := by simp [joinL]
def zeros : List Int := List.replicate 16 0

theorem row24 {c : Array Value} (h : c.size = 16) : (Try.prog.info? 51).map (·.size) = some c.size := by
  rw [h]; kernel_rfl
theorem m16 (ms : List Int) (h : ms.length = 16) : (mcells ms).size = 16 := by rw [mcells_size, h]

theorem list16 (ms : List Int) (h : ms.length = 16) : ∃ a0 a1 a2 a3 a4 a5 a6 a7 a8 a9 b0 b1 b2 b3 b4 b5 : Int, ms = [a0, a1, a2, a3, a4, a5, a6, a7, a8, a9, b0, b1, b2, b3, b4, b5] := by
  match ms, h with
  | [a0, a1, a2, a3, a4, a5, a6, a7, a8, a9, b0, b1, b2, b3, b4, b5], _ => exact ⟨a0, a1, a2, a3, a4, a5, a6, a7, a8, a9, b0, b1, b2, b3, b4, b5, rfl⟩


theorem Only.row (w : World) (b : Nat) (c : Array Value) : Only b w (w.setRow b c) :=
  ⟨Below.row (Below.refl _ _) (Nat.le_refl _) _, by simp [World.setRow], fun k hk => by simp only [World.setRow, Array.getElem?_modify]; rw [if_neg (by omega)]⟩
/-- A whole row is stored: the world behind it is known by what it holds. -/
theorem wpList_store_own {P : Program} {ops : Array Oper} {rest : List Oper} {o : Oper} {a : Act} {w : World} {Q : Exit → Act → World → Prop} (hgd : o.guard = none) (ty : TypeId) (x y : Operand) (ho : o.op = .store ty x y)
    (g : Nat) (cells : Array Value) (hx : a.eval x = .pointer (some ⟨g, 0, none⟩)) (hy : a.eval y = .agg cells)
    (t : TypeId) (old : Array Value) (hg : Own w g old t) (hi : (P.info? ty).map (·.size) = some cells.size)
    (hold : old.size = cells.size) (h1 : cells.all (·.oneCell') = true)
    (h : ∀ w', Own w' g cells t → Only g w w' → wpList P ops Q rest (a.put o.dst undef) w') : wpList P ops Q (o :: rest) a w :=
  wpList_store_row hgd ty x y ho g cells hx hy t old hg hi hold h1 (h _ (hg.row _) (Only.row _ _ _))
/-- The zero value's cells. -/
def zcells : Array Value := dcells 0 zeros
theorem zlen : zeros.length = 16 := rfl
theorem z17 : zcells.size = 17 := rfl
theorem dz (n : Int) (ms : List Int) (h : ms.length = 16) : zcells.size = (dcells n ms).size := by rw [z17, d17 _ _ h]
theorem dd (n n' : Int) (ms ms' : List Int) (h : ms.length = 16) (h' : ms'.length = 16) : (dcells n ms).size = (dcells n' ms').size := by rw [d17 _ _ h, d17 _ _ h']


/-- Two results, the first in a variable of its own. -/
theorem results_row_tmp {P : Program} {fn : Func} {p u : Tmp} {ty : TypeId} (h : fn.results = #[.cell p ty, .tmp u]) (tmps : Array Value) (w : World) (g : Nat) (t : TypeId) (cs : Array Value) (fr : Nat × Nat) (d : TypeDesc)
    (hp : tmps.getD p undef = .pointer (some ⟨g, 0, none⟩)) (hg : w.heap[g]? = some (.cells cs t fr))
    (hu : P.underlying ty = some d) (hd : (match d with | .struct _ | .array _ _ => true | _ => false) = true) (hi : (P.info? ty).map (·.size) = some cs.size) (v : Value) (hv : tmps.getD u undef = v) :
    (results fn tmps).run P w = .ok (.tuple #[.agg cs, v]) w := by
  rw [results_cell_tmp h, hp, hv]
  simp [asAddr, run_loadVar_row w g t ty cs fr d hg hu hd hi, Result.andThen]
theorem built26nil : Try.prog.built 53 [] = some zcells := by kernel_rfl
theorem Own.mates {w : World} {b : Nat} {n : Int} {ms : List Int} {t : TypeId} (h : Own w b (dcells n ms) t) : w.rangeAt b 1 (ms.map (Value.int .u8)) := by
  intro j v hj
  rw [h.cell, Nat.add_comm]
  simpa [dcells] using hj
theorem Own.mrow {w : World} {b : Nat} {ms : List Int} {t : TypeId} (h : Own w b (mcells ms) t) : w.rangeAt b 0 (ms.map (Value.int .u8)) := by
  intro j v hj
  rw [h.cell, Nat.zero_add]
  simpa [mcells] using hj
theorem len16 {ms : List Int} (h : ms.length = 16) : (Try.prog.info? 51).map (·.size) = some (ms.map (Value.int .u8)).length := by
  rw [List.length_map, h]; kernel_rfl

theorem z_eq {c : Array Value} (h : c.size = 17) : zcells.size = c.size := by rw [h]; rfl

theorem Own.drewN {w : World} {b : Nat} {cs : Array Value} {t : TypeId} (h : Own w b cs t) (n : Nat) : Own (w.drewN n) b cs t := h
theorem Below.drewN {B : Nat} {a w : World} (h : Below B a w) (n : Nat) : Below B a (w.drewN n) := h.trans ⟨rfl, rfl, rfl, Nat.le_refl _, fun _ _ => rfl⟩
theorem Only.drewN {b : Nat} {a w : World} (h : Only b a w) (n : Nat) : Only b a (w.drewN n) := ⟨Below.drewN h.below n, h.size, h.other⟩

end Go.Proofs.Ytbibmncepjmgcaa
namespace Go.Proofs.Ytbibmncepjmgcaa
open Go.RowKit
set_option maxRecDepth 100000 in
theorem inS_any (n a b : Int) (w : World) :
    Calls Try.prog 54 #[.int .i64 n, .int .i64 a, .int .i64 b] w fun e w' => e = .returned (.bool (decide (a ≤ n ∧ n ≤ b))) ∧ w = w' := by
  go_enter Try.func54, Try.ntmps54
  go_wp2
  · go_ret
    exact ⟨by simp_all, rfl⟩
  · go_ret
    exact ⟨by simp_all; omega, rfl⟩
theorem inS_t (n a b : Int) (w : World) (h : a ≤ n) (h' : n ≤ b) :
    Calls Try.prog 54 #[.int .i64 n, .int .i64 a, .int .i64 b] w fun e w' => e = .returned (.bool true) ∧ w = w' :=
  (inS_any n a b w).mono fun e w' ⟨he, hw⟩ => ⟨by rw [he]; simp [h, h'], hw⟩
theorem inS_f (n a b : Int) (w : World) (h : n < a ∨ b < n) :
    Calls Try.prog 54 #[.int .i64 n, .int .i64 a, .int .i64 b] w fun e w' => e = .returned (.bool false) ∧ w = w' :=
  (inS_any n a b w).mono fun e w' ⟨he, hw⟩ => ⟨by rw [he]; simp; omega, hw⟩
set_option maxRecDepth 100000 in
theorem joinS_any (n : Int) (ms : List Int) (hms : ms.length = 16) (i j : Int) (w : World) (hi : 0 ≤ i) (hi2 : i < 16) (hj : 0 ≤ j) (hj2 : j < 16) :
    Calls Try.prog 68 #[.agg (dcells n ms), .int .i64 i, .int .i64 j] w fun e w' => e = .returned (.agg (dcells n (joinL ms i j))) ∧ Below w.heap.size w w' := by
  have H1 : (dcells n ms)[1 + i.toNat]? = some (.int .u8 (ms.getD i.toNat 0)) := dcells_get _ _ _ (by omega)
  have H2 := fun x => dcells_get n (ms.set i.toNat x) j.toNat (by simp; omega)
  have H3 := fun x => dcells_set n ms i.toNat x
  have H4 := fun x y => dcells_set n (ms.set i.toNat x) j.toNat y
  have hh := Lib.hid hms
  clear hms
  go_enter Try.func68, Try.ntmps68
  go_wp2_with (first | (refine wpList_load_row rfl 53 _ rfl _ rfl 53 _ (0, 0) _ ((Own.new _ _ _).alloc _) Try.underlying53 rfl (row26 (d17 _ _ (by simp [hh.out]))) ?_) | (refine wpList_store_row rfl 53 _ _ rfl _ _ rfl rfl 53 _ (Own.at _ _ _ (by simp)) (row26 (d17 _ _ (by simp [hh.out]))) (by rw [d17 _ _ (by simp [hh.out])]; rfl) (dcells_one _ _) ?_))
  refine bodyPost_ret (v := .agg (dcells n ((ms.set i.toNat j).set j.toNat i))) (results_cell_row rfl _ _ _ _ _ (0, 0) _ rfl (Own.row (Own.at _ _ _ (by simp)) _) Try.underlying53 rfl (row26 (d17 _ _ (by simp [hh.out])))) rfl ⟨rfl, ?_⟩
  exact Below.row (((Below.refl _ _).alloc (Nat.le_refl _) _).alloc (by simp) _) (by omega) _
theorem built26one (n : Int) : Try.prog.built 53 [(0, .int .i64 n)] = some (dcells n zeros) := by kernel_rfl
end Go.Proofs.Ytbibmncepjmgcaa
namespace Go.Proofs.Ytbibmncepjmgcaa
open Go.RowKit
set_option maxRecDepth 100000 in
theorem isSize_any (n : Int) (w : World) :
    Calls Try.prog 74 #[.int .i64 n] w fun e w' => e = .returned (.bool (decide (1 ≤ n ∧ n ≤ 8))) ∧ w = w' := by
  go_enter Try.func74, Try.ntmps74
  go_wp2
  · go_ret
    exact ⟨by simp_all, rfl⟩
  · go_ret
    exact ⟨by simp_all; omega, rfl⟩
theorem make16 : ∀ w : World, (Instr.makeSlice 99 (.int .i64 16) (.int .i64 16)).run Try.prog w = .ok (.slice (some ⟨w.heap.size, 0, none⟩) 16 16) (w.alloc (.cells (mcells zeros) 5)) := by
  intro w; kernel_rfl
set_option maxRecDepth 100000 in
theorem newMates_any (w : World) :
    Calls Try.prog 77 #[] w fun e w' => e = .returned (.slice (some ⟨w.heap.size, 0, none⟩) 16 16) ∧ w' = w.alloc (.cells (mcells zeros) 5) := by
  have hmk := make16
  go_enter Try.func77, Try.ntmps77
  go_wp2
  go_ret
  exact ⟨rfl, rfl⟩
set_option maxRecDepth 100000 in
theorem join_any (b : Nat) (ms : List Int) (hms : ms.length = 16) (i j : Int) (w : World) (ho : Own w b (mcells ms) 5) (hi : 0 ≤ i) (hi2 : i < 16) (hj : 0 ≤ j) (hj2 : j < 16) :
    Calls Try.prog 78 #[.slice (some ⟨b, 0, none⟩) 16 16, .int .i64 i, .int .i64 j] w fun e w' => e = .returned (.tuple #[]) ∧ Own w' b (mcells (joinL ms i j)) 5 ∧ Only b w w' := by
  have c1 : w.cell? ⟨b, i.toNat, none⟩ = some (.int .u8 (ms.getD i.toNat 0)) := by rw [ho.cell, mcells_get _ _ (by omega)]
  have c2 : (w.setCell ⟨b, i.toNat, none⟩ (.int .u8 j)).cell? ⟨b, j.toNat, none⟩ = some (.int .u8 ((ms.set i.toNat j).getD j.toNat 0)) := by rw [(ho.set _ _).cell, mcells_set, mcells_get _ _ (by simp; omega)]
  have f1 : w.frozen? ⟨b, i.toNat, none⟩ = false := ho.free _
  have f2 : w.frozen? ⟨b, j.toNat, none⟩ = false := ho.free _
  have hh := Lib.hid hms
  clear hms
  go_enter Try.func78, Try.ntmps78
  go_wp2
  go_end0
  refine ⟨rfl, ?_, (Only.set _ _ _ _).trans (Only.set _ _ _ _)⟩
  have := (ho.set i.toNat (.int .u8 j)).set j.toNat (.int .u8 i)
  rwa [mcells_set, mcells_set] at this
theorem built26 (n : Int) (ms : List Int) (h : ms.length = 16) : Try.prog.built 53 [(0, .int .i64 n), (1, .agg (mcells ms))] = some (dcells n ms) := by
  obtain ⟨a0, a1, a2, a3, a4, a5, a6, a7, a8, a9, b0, b1, b2, b3, b4, b5, rfl⟩ := list16 ms h
  kernel_rfl
theorem arrayAt16 (b : Nat) : ∀ w : World, (Instr.arrayAt 51 (.slice (some ⟨b, 0, none⟩) 16 16)).run Try.prog w = .ok (.pointer (some ⟨b, 0, none⟩)) w := by
  intro w; kernel_rfl
set_option maxRecDepth 100000 in
theorem dom_any (b : Nat) (ms : List Int) (hms : ms.length = 16) (n : Int) (w : World) (ho : Own w b (mcells ms) 5) :
    Calls Try.prog 79 #[.int .i64 n, .slice (some ⟨b, 0, none⟩) 16 16] w fun e w' => e = .returned (.agg (dcells n ms)) ∧ Below w.heap.size w w' := by
  have hh := Lib.hid hms
  have hb := Lib.hid (built26 n ms hms)
  clear hms
  have hat := arrayAt16 b
  go_enter Try.func79, Try.ntmps79
  go_wp2_with (first | (refine wpList_build_of rfl 53 #[(0, .tmp 5), (1, .tmp 8)] rfl (dcells n ms) ?_ ?_; (exact hb.out)) | (refine wpList_load_row rfl 51 _ rfl _ rfl 5 _ (0, 0) _ (Own.alloc ho _) Try.underlying51 rfl (row24 (m16 _ hh.out)) ?_) | (refine wpList_store_row rfl 53 _ _ rfl _ _ rfl rfl 53 _ (Own.at _ _ _ (by first | rfl | simp)) (row26 (d17 _ _ (by simp [hh.out]))) (by rw [d17 _ _ (by simp [hh.out])]; rfl) (dcells_one _ _) ?_))
  refine bodyPost_ret (v := .agg (dcells n ms)) (results_cell_row rfl _ _ _ _ _ (0, 0) _ rfl (Own.row (Own.new _ _ _) _) Try.underlying53 rfl (row26 (d17 _ _ hh.out))) rfl ⟨rfl, ?_⟩
  exact Below.row ((Below.refl _ _).alloc (Nat.le_refl _) _) (Nat.le_refl _) _
theorem isSize_t (n : Int) (w : World) (h : 1 ≤ n) (h' : n ≤ 8) :
    Calls Try.prog 74 #[.int .i64 n] w fun e w' => e = .returned (.bool true) ∧ w = w' :=
  (isSize_any n w).mono fun e w' ⟨he, hw⟩ => ⟨by rw [he]; simp [h, h'], hw⟩
theorem isSize_f (n : Int) (w : World) (h : n < 1 ∨ 8 < n) :
    Calls Try.prog 74 #[.int .i64 n] w fun e w' => e = .returned (.bool false) ∧ w = w' :=
  (isSize_any n w).mono fun e w' ⟨he, hw⟩ => ⟨by rw [he]; simp; omega, hw⟩
end Go.Proofs.Ytbibmncepjmgcaa
namespace Go.Proofs.Ytbibmncepjmgcaa
open Go.RowKit

/-- Block g, of a number at least base, holds the numbers xs, and has room for cap. -/
def Ints (w : World) (base g cap : Nat) (xs : List Int) : Prop :=
  base ≤ g ∧ xs.length ≤ cap ∧ cap ≤ maxLen ∧ ∃ cur : Array Value, Own w g cur 2 ∧ cur.size = cap ∧ cur.toList.take xs.length = xs.map (Value.int .i64)
/-- The value of such a slice. -/
def ival (g cap : Nat) (xs : List Int) : Value := .slice (some ⟨g, 0, none⟩) xs.length cap

theorem Ints.lt {w : World} {base g cap : Nat} {xs : List Int} (h : Ints w base g cap xs) : g < w.heap.size := by
  obtain ⟨_, _, _, cur, ho, _⟩ := h; exact ho.lt
theorem Ints.cell {w : World} {base g cap : Nat} {xs : List Int} (h : Ints w base g cap xs) (j : Nat) (hj : j < xs.length) : w.cell? ⟨g, j, none⟩ = some (.int .i64 (xs.getD j 0)) := by
  obtain ⟨_, h2, _, cur, ho, hs, ht⟩ := h
  rw [ho.cell]
  have e : (cur.toList.take xs.length)[j]? = (xs.map (Value.int .i64))[j]? := by rw [ht]
  rw [List.getElem?_take_of_lt hj] at e
  simpa [hj] using e
theorem Ints.below {w w' : World} {base g cap B : Nat} {xs : List Int} (h : Ints w base g cap xs) (hb : Below B w w') (hB : g < B) : Ints w' base g cap xs := by
  obtain ⟨h1, h2, h3, cur, ho, hs, ht⟩ := h
  exact ⟨h1, h2, h3, cur, ho.below hb hB, hs, ht⟩
theorem Ints.only {w w' : World} {base g cap b : Nat} {xs : List Int} (h : Ints w base g cap xs) (hb : Only b w w') (hB : g ≠ b) : Ints w' base g cap xs := by
  obtain ⟨h1, h2, h3, cur, ho, hs, ht⟩ := h
  exact ⟨h1, h2, h3, cur, ho.only hb hB, hs, ht⟩
theorem Ints.alloc {w : World} {base g cap : Nat} {xs : List Int} (h : Ints w base g cap xs) (o : Obj) : Ints (w.alloc o) base g cap xs := by
  obtain ⟨h1, h2, h3, cur, ho, hs, ht⟩ := h
  exact ⟨h1, h2, h3, cur, ho.alloc o, hs, ht⟩
theorem Ints.drewN {w : World} {base g cap : Nat} {xs : List Int} (h : Ints w base g cap xs) (n : Nat) : Ints (w.drewN n) base g cap xs := h
theorem Ints.pop {w : World} {base g cap : Nat} {xs : List Int} {x : Int} (h : Ints w base g cap (xs ++ [x])) : Ints w base g cap xs := by
  obtain ⟨h1, h2, h3, cur, ho, hs, ht⟩ := h
  simp only [List.length_append, List.length_cons, List.length_nil] at h2
  refine ⟨h1, by omega, h3, cur, ho, hs, ?_⟩
  have e : (cur.toList.take (xs ++ [x]).length).take xs.length = ((xs ++ [x]).map (Value.int .i64)).take xs.length := by rw [ht]
  rw [List.take_take, Nat.min_eq_left (by simp)] at e
  rw [e, List.map_append, List.take_append_of_le_length (by simp)]
  rw [List.take_of_length_le (by simp)]
theorem Ints.owns {w : World} {base g cap : Nat} {xs : List Int} (h : Ints w base g cap xs) : w.ownsRow base 2 1 (ival g cap xs) xs.length (xs.map (Value.int .i64)) := by
  obtain ⟨h1, h2, h3, cur, ho, hs, ht⟩ := h
  exact ⟨by simp, .inr ⟨g, cap, cur, rfl, h1, ho, h2, h3, by simpa using hs, by simpa using ht⟩⟩
theorem Ints.of_owns {w : World} {base : Nat} {v : Value} {xs : List Int} (h : w.ownsRow base 2 1 v xs.length (xs.map (Value.int .i64))) (hv : v ≠ .slice none 0 0) : ∃ g cap, v = ival g cap xs ∧ Ints w base g cap xs := by
  obtain ⟨_, ⟨h0, _⟩ | ⟨g, cap, cur, hv', hg, hh, hn, hcap, hsz, htake⟩⟩ := h
  · exact absurd h0 hv
  · exact ⟨g, cap, hv', hg, hn, hcap, cur, hh, by simpa using hsz, by simpa using htake⟩
theorem Ints.new (w : World) (base n cap : Nat) (hb : base ≤ w.heap.size) (hw : w.heap.size = n) (hc : cap ≤ maxLen) (cs : Array Value) (hs : cs.size = cap) : Ints (w.alloc (.cells cs 2)) base n cap [] := by
  subst hw
  exact ⟨hb, Nat.zero_le _, hc, cs, Own.new _ _ _, hs, by simp⟩

theorem info64 : (Try.prog.info? 2).map (fun i => (i.zero, i.size, i.bytes)) = some (some (.int .i64 0), 1, 8) := by kernel_rfl
/-- One number is appended. -/
theorem wpList_append_ints {ops : Array Oper} {rest : List Oper} {o : Oper} {a : Act} {w : World} {Q : Exit → Act → World → Prop} (hgd : o.guard = none) (s x : Operand)
    (ho : o.op = .call { callee := .builtin .append, args := #[s, x], argTypes := #[34, 34] })
    (base g cap : Nat) (xs : List Int) (y : Int) (hs : a.eval s = ival g cap xs) (hi : Ints w base g cap xs) (ad : Addr) (c : Nat)
    (hx : a.eval x = .slice (some ad) 1 c) (hy : w.cell? ad = some (.int .i64 y)) (hl : xs.length < 2097152) (hbase : base ≤ w.heap.size)
    (h : ∀ g' cap' w', Ints w' base g' cap' (xs ++ [y]) → w.grownBy w' (some g) → wpList Try.prog ops Q rest (a.put o.dst (ival g' cap' (xs ++ [y]))) w') : wpList Try.prog ops Q (o :: rest) a w := by
  obtain ⟨i0, hi0, hz0, hz1, hz2⟩ := info_parts info64
  refine wpList_append_own w hgd s x 34 ho base 2 i0 (.int .i64 0) 1 8 Try.underlying34 hi0 hz0 hz1 hz2 rfl (by decide) _ _ _ hs hi.owns ad 1 c [.int .i64 y] hx rfl ?_ (by simp [Value.oneCell']) (by unfold maxLen; omega) (by omega) hbase ?_
  · intro j u hj
    match j, hj with
    | 0, hj =>
      simp at hj; subst hj
      have e : ad.add 0 = ad := by unfold Addr.add; split <;> simp_all
      rw [e]; exact hy
    | j + 1, hj => simp at hj
  · intro v' w' hown hgr hn
    have e1 : (xs ++ [y]).length = xs.length + 1 := by simp
    have e2 : (xs ++ [y]).map (Value.int .i64) = xs.map (Value.int .i64) ++ [.int .i64 y] := by simp
    rw [← e1, ← e2] at hown
    obtain ⟨g', cap', rfl, hI⟩ := Ints.of_owns hown (fun e => by simpa [ival] using hn.1 e)
    exact h g' cap' w' hI hgr
theorem Own.grown {w w' : World} {b g : Nat} {cs : Array Value} {t : TypeId} (h : Own w b cs t) (hg : w.grownBy w' (some g)) (hb : b ≠ g) : Own w' b cs t := by
  show w'.heap[b]? = _
  rw [hg.block b h.lt (fun e => hb (by simpa using e))]; exact h

theorem Ints.ne_own {w : World} {base g cap b : Nat} {xs : List Int} {cs : Array Value} (h : Ints w base g cap xs) (ho : Own w b cs 53) : g ≠ b := by
  obtain ⟨_, _, _, cur, hi, _⟩ := h
  intro e
  subst e
  have : some (Obj.cells cs 53 (0, 0)) = some (Obj.cells cur 2 (0, 0)) := (show w.heap[g]? = _ from ho).symm.trans hi
  simp at this
/-- A whole row is read, in a region that draws its order. -/
theorem still_load_row {P : Program} {o : Oper} {a : Act} {w : World} {K : Act → Prop} (ty : TypeId) (x : Operand) (ho : o.op = .load ty x)
    (g : Nat) (hx : a.eval x = .pointer (some ⟨g, 0, none⟩)) (t : TypeId) (cs : Array Value) (d : TypeDesc) (hg : Own w g cs t)
    (hu : P.underlying ty = some d) (hd : (match d with | .struct _ | .array _ _ => true | _ => false) = true) (hi : (P.info? ty).map (·.size) = some cs.size)
    (h : K (a.put o.dst (.agg cs))) : o.still P a w K := by
  unfold Oper.still execOp
  simp only [ho, hx, Instr.loadAt, Instr.sureAddr, Sem.run_bind, Sem.run_pure, Result.andThen_ok, run_loadVar_row w g t ty cs (0, 0) d hg hu hd hi]
  rw [Oper.stillUpon_value]; exact h

/-- A whole row is read, under a guard that says yes. -/
theorem wpList_load_row_if {P : Program} {ops : Array Oper} {rest : List Oper} {o : Oper} {a : Act} {w : World} {Q : Exit → Act → World → Prop} (hw : Region.wanted o (yielded ops a.tmps) = true) (ty : TypeId) (x : Operand) (ho : o.op = .load ty x)
    (g : Nat) (hx : a.eval x = .pointer (some ⟨g, 0, none⟩)) (t : TypeId) (cs : Array Value) (d : TypeDesc) (hg : Own w g cs t)
    (hu : P.underlying ty = some d) (hd : (match d with | .struct _ | .array _ _ => true | _ => false) = true) (hi : (P.info? ty).map (·.size) = some cs.size)
    (h : wpList P ops Q rest (a.put o.dst (.agg cs)) w) : wpList P ops Q (o :: rest) a w :=
  wpList_step fun K hK => by
    rw [if_pos hw]
    exact wp_load_row ty x ho g hx t cs (0, 0) d hg hu hd hi (hK _ _ h)

end Go.Proofs.Ytbibmncepjmgcaa
namespace Go.Proofs.Ytbibmncepjmgcaa
open Go.RowKit

/-- The place of a point, and the point with a place. -/
def pl (n i : Int) : Int := if i < n then i else 3 * n - 1 - i
theorem pl_bd (n i : Int) (h8 : n ≤ 8) (h0 : 0 ≤ i) (h2 : i < 2 * n) : 0 ≤ pl n i ∧ pl n i < 2 * n ∧ pl n i < 16 := by
  unfold pl; split <;> omega
/-- What has been read behind k bytes: the mates so far, and the places that are open. -/
def pst (n : Int) (l : List UInt8) : Nat → Option (List Int × List Int)
  | 0 => some (zeros, [])
  | k + 1 => match pst n l k with
    | none => none
    | some (ms, o) =>
      if l[k]? = some 40 then some (ms, o ++ [(k : Int)])
      else if l[k]? = some 41 then
        match o.getLast? with
        | none => none
        | some y => some (joinL ms (pl n y) (pl n k), o.dropLast)
      else none
/-- The size and the mates of the diagram with a text. -/
def parse (l : List UInt8) : Option (Int × List Int) :=
  if (l.length : Int) % 2 = 0 ∧ 1 ≤ (l.length : Int) / 2 ∧ (l.length : Int) / 2 ≤ 8 then
    match pst ((l.length : Int) / 2) l l.length with
    | some (ms, []) => some ((l.length : Int) / 2, ms)
    | _ => none
  else none
def pcells : Option (Int × List Int) → Array Value
  | none => zcells
  | some (n, ms) => dcells n ms

theorem pst_none (n : Int) (l : List UInt8) (k : Nat) (h : pst n l k = none) (d : Nat) : pst n l (k + d) = none := by
  induction d with
  | zero => exact h
  | succ d ih =>
    show pst n l (k + d + 1) = none
    unfold pst; rw [ih]
theorem pst_none_le (n : Int) (l : List UInt8) (k m : Nat) (h : pst n l k = none) (hm : k ≤ m) : pst n l m = none := by
  have := pst_none n l k h (m - k)
  rwa [show k + (m - k) = m by omega] at this
theorem pst_len (n : Int) (l : List UInt8) (k : Nat) (ms o : List Int) (h : pst n l k = some (ms, o)) : ms.length = 16 ∧ o.length ≤ k ∧ ∀ y ∈ o, 0 ≤ y ∧ y < k := by
  induction k generalizing ms o with
  | zero => simp [pst, zeros] at h; obtain ⟨rfl, rfl⟩ := h; simp
  | succ k ih =>
    unfold pst at h
    cases hp : pst n l k with
    | none => rw [hp] at h; simp at h
    | some q =>
      obtain ⟨ms', o'⟩ := q
      obtain ⟨h1, h2, h3⟩ := ih ms' o' hp
      rw [hp] at h
      simp only at h
      split at h
      · simp at h; obtain ⟨rfl, rfl⟩ := h
        refine ⟨h1, by simp; omega, fun y hy => ?_⟩
        rw [List.mem_append] at hy
        rcases hy with hy | hy
        · have := h3 y hy; omega
        · simp at hy; omega
      · split at h
        · cases hl : o'.getLast? with
          | none => rw [hl] at h; simp at h
          | some y =>
            rw [hl] at h; simp at h; obtain ⟨rfl, rfl⟩ := h
            refine ⟨by rw [joinL_len]; exact h1, by simp; omega, fun y hy => ?_⟩
            have := h3 y (List.dropLast_subset _ hy); omega
        · simp at h
theorem pst_open (n : Int) (l : List UInt8) (k : Nat) (ms o : List Int) (h : pst n l k = some (ms, o)) (hc : l[k]? = some 40) : pst n l (k + 1) = some (ms, o ++ [(k : Int)]) := by
  rw [pst, h]; simp [hc]
theorem pst_close (n : Int) (l : List UInt8) (k : Nat) (ms o : List Int) (y : Int) (h : pst n l k = some (ms, o ++ [y])) (hc : l[k]? = some 41) : pst n l (k + 1) = some (joinL ms (pl n y) (pl n k), o) := by
  rw [pst, h]; simp [hc]
theorem pst_empty (n : Int) (l : List UInt8) (k : Nat) (ms : List Int) (h : pst n l k = some (ms, [])) (hc : l[k]? ≠ some 40) : pst n l (k + 1) = none := by
  rw [pst, h]; simp [hc]
theorem pst_other (n : Int) (l : List UInt8) (k : Nat) (ms o : List Int) (h : pst n l k = some (ms, o)) (hc : l[k]? ≠ some 40) (hd : l[k]? ≠ some 41) : pst n l (k + 1) = none := by
  rw [pst, h]; simp [hc, hd]
theorem parse_len (l : List UInt8) (n : Int) (ms : List Int) (h : parse l = some (n, ms)) : ms.length = 16 := by
  unfold parse at h
  split at h
  · split at h
    · rename_i hp; simp at h; obtain ⟨_, rfl⟩ := h; exact (pst_len _ _ _ _ _ hp).1
    · simp at h
  · simp at h
theorem pcells_size (l : List UInt8) : (pcells (parse l)).size = 17 := by
  cases h : parse l with
  | none => rfl
  | some q => obtain ⟨n, ms⟩ := q; exact d17 n ms (parse_len l n ms h)
theorem parse_some (l : List UInt8) (n : Int) (hl : (l.length : Int) = 2 * n) (h1 : 1 ≤ n) (h8 : n ≤ 8) (ms : List Int) (h : pst n l l.length = some (ms, [])) : parse l = some (n, ms) := by
  have e : (l.length : Int) / 2 = n := by omega
  unfold parse
  rw [e, if_pos ⟨by omega, h1, h8⟩, h]
theorem parse_open (l : List UInt8) (n : Int) (hl : (l.length : Int) = 2 * n) (ms o : List Int) (y : Int) (h : pst n l l.length = some (ms, o ++ [y])) : parse l = none := by
  have e : (l.length : Int) / 2 = n := by omega
  unfold parse
  rw [e]
  split
  · rw [h]
    cases o <;> simp
  · rfl
theorem parse_bad (l : List UInt8) (n : Int) (hl : (l.length : Int) = 2 * n) (k : Nat) (hk : k ≤ l.length) (h : pst n l k = none) : parse l = none := by
  have e : (l.length : Int) / 2 = n := by omega
  unfold parse
  rw [e]
  split
  · rw [pst_none_le _ _ _ _ h hk]
  · rfl
theorem parse_size (l : List UInt8) (h : (l.length : Int) % 2 ≠ 0 ∨ (l.length : Int) / 2 < 1 ∨ 8 < (l.length : Int) / 2) : parse l = none := by
  unfold parse
  rw [if_neg]
  omega
theorem byte_ne (c d : UInt8) (h : c ≠ d) : ((c.toNat : Int) == (d.toNat : Int)) = false := by
  simp only [beq_eq_false_iff_ne, ne_eq]
  intro e
  exact h (UInt8.toNat.inj (by omega))
theorem size_list (s : ByteArray) : s.data.toList.length = s.size := by
  rw [Array.length_toList]; rfl
theorem get_list (s : ByteArray) (k : Nat) (h : k < s.size) : s.data.toList[k]? = some s[k] := by
  rw [List.getElem?_eq_getElem (by rw [size_list]; exact h)]; rfl
/-- What the reading hands back. -/
def pval : Option (Int × List Int) → Value
  | none => .tuple #[.agg zcells, .bool false]
  | some (n, ms) => .tuple #[.agg (dcells n ms), .bool true]
def DotPost (s : ByteArray) (w : World) (e : Ending) (w' : World) : Prop := e = .returned (pval (parse s.data.toList)) ∧ Below w.heap.size w w'
theorem dot_fail {s : ByteArray} {w w' : World} (h : parse s.data.toList = none) (hb : Below w.heap.size w w') : DotPost s w (.returned (.tuple #[.agg zcells, .bool false])) w' := ⟨by rw [h]; rfl, hb⟩
theorem dot_yes {s : ByteArray} {w w' : World} {n : Int} {ms : List Int} (h : parse s.data.toList = some (n, ms)) (hb : Below w.heap.size w w') : DotPost s w (.returned (.tuple #[.agg (dcells n ms), .bool true])) w' := ⟨by rw [h]; rfl, hb⟩
end Go.Proofs.Ytbibmncepjmgcaa
namespace Go.Proofs.Ytbibmncepjmgcaa
open Go.RowKit
set_option maxRecDepth 100000 in
theorem placeI_any (n i : Int) (w : World) (h0 : 0 ≤ n) (h8 : n ≤ 8) (hi : 0 ≤ i) (hi2 : i ≤ 255) :
    Calls Try.prog 118 #[.int .i64 n, .int .i64 i] w fun e w' => e = .returned (.int .i64 (pl n i)) ∧ w = w' := by
  by_cases h : i < n
  · have e : pl n i = i := by unfold pl; rw [if_pos h]
    rw [e]
    clear e
    go_enter Try.func118, Try.ntmps118
    go_wp2
    go_ret
    exact ⟨rfl, rfl⟩
  · have e : pl n i = 3 * n - 1 - i := by unfold pl; rw [if_neg h]
    rw [e]
    clear e
    go_enter Try.func118, Try.ntmps118
    go_wp2
    go_ret
    exact ⟨rfl, rfl⟩
set_option maxRecDepth 100000 in
theorem pointI_any (n i : Int) (w : World) (h0 : 0 ≤ n) (h8 : n ≤ 8) (hi : 0 ≤ i) (hi2 : i ≤ 255) :
    Calls Try.prog 117 #[.int .i64 n, .int .i64 i] w fun e w' => e = .returned (.int .i64 (pl n i)) ∧ w = w' := by
  go_enter Try.func117, Try.ntmps117
  go_wp2_with (first
    | (go_at_call 118; ((with_reducible refine (placeI_any n i _ h0 h8 hi hi2).mono ?_); rintro e w0 ⟨rfl, rfl⟩)))
  go_ret
  exact ⟨rfl, rfl⟩
theorem make0 : ∀ w : World, (Instr.makeSlice 34 (.int .i64 0) (.int .i64 16)).run Try.prog w = .ok (.slice (some ⟨w.heap.size, 0, none⟩) 0 16) (w.alloc (.cells (Array.replicate 16 (.int .i64 0)) 2)) := by
  intro w; kernel_rfl
set_option maxRecDepth 100000 in
set_option maxHeartbeats 1000000 in
theorem dot_ok (s : ByteArray) (n : Int) (w : World) (hn : (s.size : Int) = 2 * n) (h1 : 1 ≤ n) (h8 : n ≤ 8) :
    Calls Try.prog 107 #[.string s] w (DotPost s w) := by
  have hmk := make0
  go_enter Try.func107, Try.ntmps107
  go_wp2_with (first
    | (go_at_call 74; ((with_reducible refine (isSize_t _ _ (by omega) (by omega)).mono ?_); rintro e w0 ⟨rfl, rfl⟩))
    | (go_at_call 77; ((with_reducible refine (newMates_any _).mono ?_); rintro e w0 ⟨rfl, rfl⟩)))
  clear hmk
  go_loopw [6, 26] (fun o i wr => ∃ (k : Nat) (ms op : List Int) (g cap : Nat), (k : Int) ≤ 2 * n ∧ i = .int .i64 k ∧ o = .slice (some ⟨g, 0, none⟩) op.length cap ∧ Hid (pst n s.data.toList k = some (ms, op)) ∧ Own wr (w.heap.size + 1) (mcells ms) 5 ∧ Own wr w.heap.size zcells 53 ∧ Ints wr (w.heap.size + 2) g cap (op.map (pl n)) ∧ Below w.heap.size w wr) (fun _ i _ => (2 * n - intOf i).toNat)
  case atStart => exact ⟨0, zeros, [], _, _, by omega, rfl, rfl, Lib.hid rfl, Own.alloc (Own.at _ _ _ (by simp)) _, (Own.alloc (Own.alloc (Own.new _ _ _) _) _), Ints.new _ _ _ _ (by simp) (by simp) (by decide) _ (by simp), (((Below.refl _ _).alloc (Nat.le_refl _) _).alloc (by simp) _).alloc (by simp; omega) _⟩
  case round =>
    obtain ⟨k, ms, op, g, cap, hk, rfl, rfl, hP, hO, hR, hI, hB⟩ := hrel
    obtain ⟨hl, hol, hop⟩ := pst_len _ _ _ _ _ hP.out
    have hol' : op.length ≤ 16 := by omega
    have hs := hB.size
    have hlm := Lib.hid hl
    have hop' := Lib.hid hop
    clear hl hop
    by_cases hlt : (k : Int) < 2 * n
    · have hks : k < s.size := by omega
      have HG := Lib.hid (get_list s k hks)
      have pb := pl_bd n k h8 (by omega) hlt
      by_cases c40 : s[k] = 40
      · have b40 : ((s[k].toNat : Int) == 40) = true := by rw [c40]; rfl
        have HP := Lib.hid (pst_open _ _ _ _ _ hP.out (by rw [HG.out, c40]))
        clear c40 hP
        go_wp2_with (first
          | (go_at_call 117; ((with_reducible refine (pointI_any n k _ (by omega) h8 (by omega) (by omega)).mono ?_); rintro e w0 ⟨rfl, rfl⟩))
          | (refine wpList_append_ints rfl (.tmp 38) (.tmp 40) rfl (w.heap.size + 2) g cap (op.map (pl n)) (pl n k) (by simp [ival]; rfl) (hI.alloc _) ⟨wr.heap.size, 0, none⟩ 1 rfl ((Own.new _ _ _).cell 0) (by simp; omega) (by simp; have := hR.lt; have := hO.lt; omega) ?_; intro g2 cap2 w2 hI2 hG2))
        have hO2 := (hO.alloc _).grown hG2 (by have := hI.1; omega)
        have hR2 := (hR.alloc _).grown hG2 (by have := hI.1; omega)
        have hB2 : Below w.heap.size w w2 := (hB.alloc hs _).grown hG2 (by simp; omega) (fun k e => by have := hI.1; simp at e; omega)
        have hI3 : Ints w2 (w.heap.size + 2) g2 cap2 ((op ++ [(k : Int)]).map (pl n)) := by rw [List.map_append]; exact hI2
        clear hO hR hB hI hG2 hI2
        go_wp2
        go_roundw
        case rel => exact ⟨k + 1, ms, op ++ [(k : Int)], g2, cap2, by omega, by go_num, by simp [ival], HP, hO2, hR2, hI3, hB2⟩
        case measure => simp [intOf]; omega
      · by_cases c41 : s[k] = 41
        · have b40 : ((s[k].toNat : Int) == 40) = false := by rw [c41]; rfl
          have b41 : ((s[k].toNat : Int) == 41) = true := by rw [c41]; rfl
          have n40 := Lib.hid (show s.data.toList[k]? ≠ some 40 by rw [HG.out]; simpa using c40)
          have n41 := Lib.hid (show s.data.toList[k]? = some 41 by rw [HG.out, c41])
          clear c40 c41
          rcases List.eq_nil_or_concat op with h0 | ⟨ys, y, h0⟩
          · subst h0
            have HP := Lib.hid (parse_bad _ n (by rw [size_list]; exact hn) (k + 1) (by rw [size_list]; omega) (pst_empty _ _ _ _ hP.out n40.out))
            clear hP
            go_wp2_with (first
              | (go_at_call 117; ((with_reducible refine (pointI_any n k _ (by omega) h8 (by omega) (by omega)).mono ?_); rintro e w0 ⟨rfl, rfl⟩))
              | (refine wpList_build_of rfl 53 #[] rfl zcells ?_ ?_; (exact built26nil)) | (refine wpList_store_own rfl 53 _ _ rfl _ _ rfl rfl 53 _ (hR) (row26 (d17 _ _ (zlen))) (rfl) (dcells_one _ _) ?_; intro w4 hO4 hN4))
            refine bodyPost_ret (v := .tuple #[.agg (zcells), .bool false]) (results_row_tmp rfl _ _ _ _ _ (0, 0) _ rfl (hO4) Try.underlying53 rfl (row26 (d17 _ _ (zlen))) _ rfl) rfl (dot_fail HP.out (hB.trans (hN4.below.mono (Nat.le_refl _))))
          · rw [List.concat_eq_append] at h0
            subst h0
            have hy := hop'.out y (by simp)
            have py := pl_bd n y h8 hy.1 (by omega)
            have HP := Lib.hid (pst_close _ _ _ _ _ _ hP.out n41.out)
            clear hP hop' hy
            rw [List.map_append] at hI
            have e1 : (ys ++ [y]).length = ys.length + 1 := by simp
            have hc : wr.cell? ⟨g, ys.length, none⟩ = some (.int .i64 (pl n y)) := by
              rw [hI.cell ys.length (by simp)]
              simp
            have hcap : ys.length + 1 ≤ cap := by have := hI.2.1; simpa using this
            rw [e1] at hol hol'
            have hI2 := hI.pop
            have hgb := hI.1
            clear hI
            rw [e1]
            clear e1
            go_wp2_with (first
              | (go_at_call 117; ((with_reducible refine (pointI_any n k _ (by omega) h8 (by omega) (by omega)).mono ?_); rintro e w0 ⟨rfl, rfl⟩))
              | (go_at_call 78; ((with_reducible refine (join_any _ ms hlm.out (pl n y) (pl n k) _ hO (by omega) (by omega) (by omega) (by omega)).mono ?_); rintro e w2 ⟨rfl, hO2, hN2⟩)))
            go_roundw
            case rel => exact ⟨k + 1, _, ys, g, cap, by omega, by go_num, rfl, HP, hO2, hR.only hN2 (by omega), hI2.only hN2 (by omega), hB.trans (hN2.below.mono (by omega))⟩
            case measure => simp [intOf]; omega
        · have b40 : ((s[k].toNat : Int) == 40) = false := byte_ne s[k] 40 c40
          have b41 : ((s[k].toNat : Int) == 41) = false := byte_ne s[k] 41 c41
          have HP := Lib.hid (parse_bad _ n (by rw [size_list]; exact hn) (k + 1) (by rw [size_list]; omega) (pst_other _ _ _ _ _ hP.out (by rw [HG.out]; simpa using c40) (by rw [HG.out]; simpa using c41)))
          clear hP c40 c41
          go_wp2_with (first
            | (go_at_call 117; ((with_reducible refine (pointI_any n k _ (by omega) h8 (by omega) (by omega)).mono ?_); rintro e w0 ⟨rfl, rfl⟩))
            | (refine wpList_build_of rfl 53 #[] rfl zcells ?_ ?_; (exact built26nil)) | (refine wpList_store_own rfl 53 _ _ rfl _ _ rfl rfl 53 _ (hR) (row26 (d17 _ _ (zlen))) (rfl) (dcells_one _ _) ?_; intro w4 hO4 hN4))
          refine bodyPost_ret (v := .tuple #[.agg (zcells), .bool false]) (results_row_tmp rfl _ _ _ _ _ (0, 0) _ rfl (hO4) Try.underlying53 rfl (row26 (d17 _ _ (zlen))) _ rfl) rfl (dot_fail HP.out (hB.trans (hN4.below.mono (Nat.le_refl _))))
    · have HK := Lib.hid (show k = s.data.toList.length by rw [size_list]; omega)
      rcases List.eq_nil_or_concat op with h0 | ⟨ys, y, h0⟩
      · subst h0
        have HP := Lib.hid (parse_some _ n (by rw [size_list]; exact hn) h1 h8 ms (by rw [← HK.out]; exact hP.out))
        clear hP HK
        go_wp2_with (first
          | (go_at_call 79; ((with_reducible refine (dom_any _ ms hlm.out n _ hO).mono ?_); rintro e w2 ⟨rfl, hB2⟩))
          | (refine wpList_store_own rfl 53 _ _ rfl _ _ rfl rfl 53 _ (hR.below hB2 hR.lt) (row26 (d17 _ _ (hlm.out))) (z_eq (d17 _ _ hlm.out)) (dcells_one _ _) ?_; intro w4 hO4 hN4))
        refine bodyPost_ret (v := .tuple #[.agg (dcells n ms), .bool true]) (results_row_tmp rfl _ _ _ _ _ (0, 0) _ rfl (hO4) Try.underlying53 rfl (row26 (d17 _ _ (hlm.out))) _ rfl) rfl (dot_yes HP.out ((hB.trans (hB2.mono hs)).trans (hN4.below.mono (Nat.le_refl _))))
      · rw [List.concat_eq_append] at h0
        subst h0
        have HP := Lib.hid (parse_open _ n (by rw [size_list]; exact hn) ms ys y (by rw [← HK.out]; exact hP.out))
        have e1 : (ys ++ [y]).length = ys.length + 1 := by simp
        clear hP HK
        rw [e1]
        clear e1 hol hol'
        go_wp2_with (first
          | (refine wpList_build_of rfl 53 #[] rfl zcells ?_ ?_; (exact built26nil)) | (refine wpList_store_own rfl 53 _ _ rfl _ _ rfl rfl 53 _ (hR) (row26 (d17 _ _ (zlen))) (rfl) (dcells_one _ _) ?_; intro w4 hO4 hN4))
        refine bodyPost_ret (v := .tuple #[.agg (zcells), .bool false]) (results_row_tmp rfl _ _ _ _ _ (0, 0) _ rfl (hO4) Try.underlying53 rfl (row26 (d17 _ _ (zlen))) _ rfl) rfl (dot_fail HP.out (hB.trans (hN4.below.mono (Nat.le_refl _))))
set_option maxRecDepth 100000 in
theorem dot_odd (s : ByteArray) (w : World) (hm : s.size ≤ maxLen) (h : (s.size : Int) % 2 ≠ 0) :
    Calls Try.prog 107 #[.string s] w (DotPost s w) := by
  have HP := Lib.hid (parse_size s.data.toList (.inl (by rw [size_list]; exact h)))
  unfold maxLen at hm
  have b : (((s.size : Int) % 2) != 0) = true := by simpa using h
  clear h
  go_enter Try.func107, Try.ntmps107
  go_wp2_with (first
    | (refine wpList_build_of rfl 53 #[] rfl zcells ?_ ?_; (exact built26nil)) | (refine wpList_store_own rfl 53 _ _ rfl _ _ rfl rfl 53 _ (Own.new w _ _) (row26 (d17 _ _ (zlen))) (rfl) (dcells_one _ _) ?_; intro w4 hO4 hN4))
  refine bodyPost_ret (v := .tuple #[.agg (zcells), .bool false]) (results_row_tmp rfl _ _ _ _ _ (0, 0) _ rfl (hO4) Try.underlying53 rfl (row26 (d17 _ _ (zlen))) _ rfl) rfl (dot_fail HP.out (((Below.refl _ _).alloc (Nat.le_refl _) _).trans (hN4.below.mono (Nat.le_refl _))))
set_option maxRecDepth 100000 in
theorem dot_size (s : ByteArray) (w : World) (hm : s.size ≤ maxLen) (h : (s.size : Int) % 2 = 0) (h2 : (s.size : Int) / 2 < 1 ∨ 8 < (s.size : Int) / 2) :
    Calls Try.prog 107 #[.string s] w (DotPost s w) := by
  have HP := Lib.hid (parse_size s.data.toList (.inr (by rw [size_list]; exact h2)))
  unfold maxLen at hm
  have b : (((s.size : Int) % 2) != 0) = false := by simpa using h
  have H2 := Lib.hid h2
  clear h h2
  go_enter Try.func107, Try.ntmps107
  go_wp2_with (first
    | (go_at_call 74; ((with_reducible refine (isSize_f _ _ H2.out).mono ?_); rintro e w0 ⟨rfl, rfl⟩))
    | (refine wpList_build_of rfl 53 #[] rfl zcells ?_ ?_; (exact built26nil)) | (refine wpList_store_own rfl 53 _ _ rfl _ _ rfl rfl 53 _ (Own.new w _ _) (row26 (d17 _ _ (zlen))) (rfl) (dcells_one _ _) ?_; intro w4 hO4 hN4))
  refine bodyPost_ret (v := .tuple #[.agg (zcells), .bool false]) (results_row_tmp rfl _ _ _ _ _ (0, 0) _ rfl (hO4) Try.underlying53 rfl (row26 (d17 _ _ (zlen))) _ rfl) rfl (dot_fail HP.out (((Below.refl _ _).alloc (Nat.le_refl _) _).trans (hN4.below.mono (Nat.le_refl _))))
theorem dot_any (s : ByteArray) (w : World) (hm : s.size ≤ maxLen) : Calls Try.prog 107 #[.string s] w (DotPost s w) := by
  by_cases h : (s.size : Int) % 2 = 0
  · by_cases h2 : 1 ≤ (s.size : Int) / 2 ∧ (s.size : Int) / 2 ≤ 8
    · exact dot_ok s ((s.size : Int) / 2) w (by omega) h2.1 h2.2
    · exact dot_size s w hm h (by omega)
  · exact dot_odd s w hm h
end Go.Proofs.Ytbibmncepjmgcaa
namespace Go.Proofs.Ytbibmncepjmgcaa
open Go.RowKit
set_option maxRecDepth 100000 in
theorem placeS_any (n i : Int) (w : World) (h0 : 0 ≤ n) (h8 : n ≤ 8) (hi : 0 ≤ i) (hi2 : i ≤ 255) :
    Calls Try.prog 115 #[.int .i64 n, .int .i64 i] w fun e w' => e = .returned (.int .i64 (pl n i)) ∧ w' = w := by
  by_cases h : i < n
  · have e : pl n i = i := by unfold pl; rw [if_pos h]
    rw [e]
    clear e
    go_enter Try.func115, Try.ntmps115
    go_wp2
    go_ret
    exact ⟨rfl, rfl⟩
  · have e : pl n i = 3 * n - 1 - i := by unfold pl; rw [if_neg h]
    rw [e]
    clear e
    go_enter Try.func115, Try.ntmps115
    go_wp2
    go_ret
    exact ⟨rfl, rfl⟩
theorem mk0 : ∀ w : World, (Instr.buildSlice 34 0 #[]).run Try.prog w = .ok (.slice (some ⟨w.heap.size, 0, none⟩) 0 0) (w.alloc (.cells #[] 2)) := by
  intro w; kernel_rfl
end Go.Proofs.Ytbibmncepjmgcaa
namespace Go.Proofs.Ytbibmncepjmgcaa
open Go.RowKit
def oneL (n : Int) : Nat → List Int
  | 0 => zeros
  | k + 1 => joinL (oneL n k) k (n + k)
theorem oneL_len (n : Int) (k : Nat) : (oneL n k).length = 16 := by
  induction k with
  | zero => simp [oneL, zeros]
  | succ k ih => simp [oneL, joinL_len, ih]
set_option maxRecDepth 100000 in
set_option maxHeartbeats 400000 in
theorem oneS_any (n : Int) (w : World) (h1 : 1 ≤ n) (h8 : n ≤ 8) :
    Calls Try.prog 69 #[.int .i64 n] w fun e w' => e = .returned (.agg (dcells n (oneL n n.toNat))) ∧ Below w.heap.size w w' := by
  have hb := Lib.hid (built26one n)
  go_enter Try.func69, Try.ntmps69
  go_wp2_with (first | (refine wpList_build_of rfl 53 #[(0, .tmp 5)] rfl (dcells n zeros) ?_ ?_; (exact hb.out)) | (refine wpList_store_own rfl 53 _ _ rfl _ _ rfl rfl 53 _ (Own.at _ _ _ (by first | rfl | simp)) (row26 (d17 _ _ (zlen))) (dz _ _ zlen) (dcells_one _ _) ?_; intro w1 hO1 hN1))
  have hR1 : Own w1 w.heap.size zcells 53 := (Own.alloc (Own.new _ _ _) _).only hN1 (by omega)
  have hB1 : Below w.heap.size w w1 := (((Below.refl _ _).alloc (Nat.le_refl _) _).alloc (by simp) _).trans (hN1.below.mono (by omega))
  clear hN1 hb
  go_loopw [4] (fun i wr => ∃ k : Nat, k ≤ n ∧ i = .int .i64 k ∧ Own wr (w.heap.size + 1) (dcells n (oneL n k)) 53 ∧ Own wr w.heap.size zcells 53 ∧ Below w.heap.size w wr) (fun i _ => (n - intOf i).toNat)
  case atStart => exact ⟨0, by omega, rfl, hO1, hR1, hB1⟩
  case round =>
    obtain ⟨k, hk, rfl, hO, hR, hB⟩ := hrel
    have hl := Lib.hid (oneL_len n k)
    have hs := hB.size
    by_cases hlt : (k : Int) < n
    · go_wp2_with (first
    | (refine wpList_load_row rfl 53 _ rfl _ rfl 53 _ (0, 0) _ (hO) Try.underlying53 rfl (row26 (d17 _ _ (hl.out))) ?_) | (go_at_call 68; refine (joinS_any n (oneL n k) hl.out k (n + k) _ (by omega) (by omega) (by omega) (by omega)).mono ?_; rintro e w2 ⟨rfl, hB2⟩) | (refine wpList_store_own rfl 53 _ _ rfl _ _ rfl rfl 53 _ (hO.below hB2 hO.lt) (row26 (d17 _ _ (joinL_len _ _ _ |>.trans hl.out))) (dd _ _ _ _ hl.out (joinL_len _ _ _ |>.trans hl.out)) (dcells_one _ _) ?_; intro w3 hO3 hN3))
      have hR3 := (hR.below hB2 hR.lt).only hN3 (by omega)
      have hB3 : Below w.heap.size w w3 := (hB.trans (hB2.mono hs)).trans (hN3.below.mono (by omega))
      clear hO hR hB hB2 hN3 hl
      go_wp2
      go_roundw
      case rel => exact ⟨k + 1, by omega, by go_num, hO3, hR3, hB3⟩
      case measure => simp [intOf]; omega
    · go_wp2_with (first
    | (refine wpList_load_row rfl 53 _ rfl _ rfl 53 _ (0, 0) _ (hO) Try.underlying53 rfl (row26 (d17 _ _ (hl.out))) ?_) | (refine wpList_store_own rfl 53 _ _ rfl _ _ rfl rfl 53 _ (hR) (row26 (d17 _ _ (hl.out))) (dz _ _ hl.out) (dcells_one _ _) ?_; intro w3 hO3 hN3))
      have hk' : n.toNat = k := by omega
      rw [hk']
      refine bodyPost_ret (v := .agg (dcells n (oneL n k))) (results_cell_row rfl _ _ _ _ _ (0, 0) _ rfl (hO3) Try.underlying53 rfl (row26 (d17 _ _ (hl.out)))) rfl (⟨rfl, hB.trans (hN3.below.mono (Nat.le_refl _))⟩)

def cupL (n i : Int) : List Int := joinL (joinL (oneL n n.toNat) i (i + 1)) (n + i) (n + i + 1)
theorem cupL_len (n i : Int) : (cupL n i).length = 16 := by simp [cupL, joinL_len, oneL_len]
set_option maxRecDepth 100000 in
theorem cupS_any (n i : Int) (w : World) (h1 : 2 ≤ n) (h8 : n ≤ 8) (h0 : 0 ≤ i) (hi : i ≤ n - 2) :
    Calls Try.prog 32 #[.int .i64 n, .int .i64 i] w fun e w' => e = .returned (.agg (dcells n (cupL n i))) ∧ Below w.heap.size w w' := by
  have hl := Lib.hid (oneL_len n n.toNat)
  have hl2 := Lib.hid (joinL_len (oneL n n.toNat) i (i + 1) |>.trans hl.out)
  have hl3 : Hid ((joinL (joinL (oneL n n.toNat) i (i + 1)) (n + i) (n + i + 1)).length = 16) := Lib.hid (cupL_len n i)
  go_enter Try.func32, Try.ntmps32
  go_wp2_with (first
    | (go_at_call 69; ((with_reducible refine (oneS_any n _ (by omega) h8).mono ?_); rintro e w1 ⟨rfl, hB1⟩))
    | (go_at_call 68; ((with_reducible refine (joinS_any n (oneL n n.toNat) hl.out i (i + 1) _ (by omega) (by omega) (by omega) (by omega)).mono ?_); rintro e w2 ⟨rfl, hB2⟩))
    | (go_at_call 68; ((with_reducible refine (joinS_any n (joinL (oneL n n.toNat) i (i + 1)) hl2.out (n + i) (n + i + 1) _ (by omega) (by omega) (by omega) (by omega)).mono ?_); rintro e w3 ⟨rfl, hB3⟩))
    | (refine wpList_store_own rfl 53 _ _ rfl _ _ rfl rfl 53 _ ((((Own.new w _ _).below hB1 (by simp)).below hB2 (Nat.lt_of_lt_of_le (by simp) hB1.size)).below hB3 (Nat.lt_of_lt_of_le (Nat.lt_of_lt_of_le (by simp) hB1.size) hB2.size)) (row26 (d17 _ _ (hl3.out))) (by rw [d17 _ _ hl3.out]; rfl) (dcells_one _ _) ?_; intro w4 hO4 hN4))
  refine bodyPost_ret (v := .agg (dcells n (cupL n i))) (results_cell_row rfl _ _ _ _ _ (0, 0) _ rfl (hO4) Try.underlying53 rfl (row26 (d17 _ _ (hl3.out)))) rfl (⟨rfl, ?_⟩)
  refine Below.trans ?_ (hN4.below.mono (Nat.le_refl _))
  have h0 : Below w.heap.size w (w.alloc (.cells zcells 53)) := (Below.refl _ _).alloc (Nat.le_refl _) _
  exact ((h0.trans (hB1.mono h0.size)).trans (hB2.mono (Nat.le_trans h0.size hB1.size))).trans (hB3.mono (Nat.le_trans (Nat.le_trans h0.size hB1.size) hB2.size))

def isOk (b : Bool) : Int := if b then 0 else 2
end Go.Proofs.Ytbibmncepjmgcaa
namespace Go.Proofs.Ytbibmncepjmgcaa
open Go.RowKit
set_option maxRecDepth 100000 in
set_option maxHeartbeats 400000 in
theorem unitI_ok (n : Int) (w : World) (h1 : 1 ≤ n) (h8 : n ≤ 8) :
    Calls Try.prog 92 #[.int .i64 n] w fun e w' => e = .returned (.tuple #[.agg (dcells n (oneL n n.toNat)), .int .i64 0]) ∧ Below w.heap.size w w' := by
  go_enter Try.func92, Try.ntmps92
  go_wp2_with (first
    | (go_at_call 74; ((with_reducible refine (isSize_t _ _ (by omega) (by omega)).mono ?_); rintro e w0 ⟨rfl, rfl⟩))
    | (go_at_call 77; ((with_reducible refine (newMates_any _).mono ?_); rintro e w0 ⟨rfl, rfl⟩)))
  go_loopw [12] (fun i wr => ∃ k : Nat, k ≤ n ∧ i = .int .i64 k ∧ Own wr (w.heap.size + 1) (mcells (oneL n k)) 5 ∧ Own wr w.heap.size zcells 53 ∧ Below w.heap.size w wr) (fun i _ => (n - intOf i).toNat)
  case atStart => exact ⟨0, by omega, rfl, Own.at _ _ _ (by simp), Own.alloc (Own.new _ _ _) _, ((Below.refl _ _).alloc (Nat.le_refl _) _).alloc (by simp) _⟩
  case round =>
    obtain ⟨k, hk, rfl, hO, hR, hB⟩ := hrel
    have hl := Lib.hid (oneL_len n k)
    have hs := hB.size
    by_cases hlt : (k : Int) < n
    · go_wp2_with (first
        | (go_at_call 78; ((with_reducible refine (join_any _ _ hl.out k (n + k) _ hO (by omega) (by omega) (by omega) (by omega)).mono ?_); rintro e w2 ⟨rfl, hO2, hN2⟩)))
      have hR3 := hR.only hN2 (by omega)
      have hB3 : Below w.heap.size w w2 := hB.trans (hN2.below.mono (by omega))
      clear hO hR hB hN2 hl
      go_wp2
      go_roundw
      case rel => exact ⟨k + 1, by omega, by go_num, hO2, hR3, hB3⟩
      case measure => simp [intOf]; omega
    · go_wp2_with (first
        | (go_at_call 79; ((with_reducible refine (dom_any _ _ hl.out n _ hO).mono ?_); rintro e w2 ⟨rfl, hB2⟩))
        | (refine wpList_store_own rfl 53 _ _ rfl _ _ rfl rfl 53 _ (hR.below hB2 hR.lt) (row26 (d17 _ _ (hl.out))) (z_eq (d17 _ _ hl.out)) (dcells_one _ _) ?_; intro w3 hO3 hN3))
      have hk' : n.toNat = k := by omega
      rw [hk']
      refine bodyPost_ret (v := .tuple #[.agg (dcells n (oneL n k)), .int .i64 0]) (results_row_tmp rfl _ _ _ _ _ (0, 0) _ rfl (hO3) Try.underlying53 rfl (row26 (d17 _ _ (hl.out))) _ rfl) rfl (⟨rfl, (hB.trans (hB2.mono hs)).trans (hN3.below.mono (Nat.le_refl _))⟩)
set_option maxRecDepth 100000 in
theorem unitI_bad (n : Int) (w : World) (h : n < 1 ∨ 8 < n) :
    Calls Try.prog 92 #[.int .i64 n] w fun e w' => e = .returned (.tuple #[.agg zcells, .int .i64 2]) ∧ Below w.heap.size w w' := by
  have hs := Lib.hid h
  clear h
  go_enter Try.func92, Try.ntmps92
  go_wp2_with (first
    | (go_at_call 74; ((with_reducible refine (isSize_f _ _ hs.out).mono ?_); rintro e w0 ⟨rfl, rfl⟩))
    | (refine wpList_build_of rfl 53 #[] rfl zcells ?_ ?_; (exact built26nil)) | (refine wpList_store_own rfl 53 _ _ rfl _ _ rfl rfl 53 _ (Own.new w _ _) (row26 (d17 _ _ (zlen))) (rfl) (dcells_one _ _) ?_; intro w4 hO4 hN4))
  refine bodyPost_ret (v := .tuple #[.agg (zcells), .int .i64 2]) (results_row_tmp rfl _ _ _ _ _ (0, 0) _ rfl (hO4) Try.underlying53 rfl (row26 (d17 _ _ (zlen))) _ rfl) rfl (⟨rfl, ?_⟩)
  refine Below.trans ?_ (hN4.below.mono (Nat.le_refl _))
  exact (Below.refl _ _).alloc (Nat.le_refl _) _
/-- The lines of a generator but for its two short ones. -/
def genL (n i : Int) : Nat → List Int
  | 0 => zeros
  | k + 1 => if (k : Int) = i ∨ (k : Int) = i + 1 then genL n i k else joinL (genL n i k) k (n + k)
theorem genL_len (n i : Int) (k : Nat) : (genL n i k).length = 16 := by
  induction k with
  | zero => simp [genL, zeros]
  | succ k ih => unfold genL; split <;> simp [joinL_len, ih]
def genD (n i : Int) : List Int := joinL (joinL (genL n i n.toNat) i (i + 1)) (n + i) (n + i + 1)
theorem genD_len (n i : Int) : (genD n i).length = 16 := by simp [genD, joinL_len, genL_len]
theorem genD_nat : ∀ n i : Nat, n ≤ 8 → i < n - 1 → genD n i = cupL n i := by
  have h : ∀ n, n ≤ 8 → ∀ i, i < n - 1 → genD (n : Nat) (i : Nat) = cupL (n : Nat) (i : Nat) := by decide +kernel
  exact fun n i hn hi => h n hn i hi
theorem genD_cup (n i : Int) (h1 : 2 ≤ n) (h8 : n ≤ 8) (h0 : 0 ≤ i) (hi : i ≤ n - 2) : genD n i = cupL n i := by
  have := genD_nat n.toNat i.toNat (by omega) (by omega)
  have e1 : ((n.toNat : Nat) : Int) = n := by omega
  have e2 : ((i.toNat : Nat) : Int) = i := by omega
  rwa [e1, e2] at this
set_option maxRecDepth 100000 in
set_option maxHeartbeats 400000 in
theorem genI_ok (n i : Int) (w : World) (h1 : 2 ≤ n) (h8 : n ≤ 8) (h0 : 0 ≤ i) (hi : i ≤ n - 2) :
    Calls Try.prog 37 #[.int .i64 n, .int .i64 i] w fun e w' => e = .returned (.tuple #[.agg (dcells n (cupL n i)), .int .i64 0]) ∧ Below w.heap.size w w' := by
  rw [← genD_cup n i h1 h8 h0 hi]
  go_enter Try.func37, Try.ntmps37
  go_wp2_with (first
    | (go_at_call 77; ((with_reducible refine (newMates_any _).mono ?_); rintro e w0 ⟨rfl, rfl⟩)))
  go_loopw [27] (fun i' wr => ∃ k : Nat, k ≤ n ∧ i' = .int .i64 k ∧ Own wr (w.heap.size + 1) (mcells (genL n i k)) 5 ∧ Own wr w.heap.size zcells 53 ∧ Below w.heap.size w wr) (fun i _ => (n - intOf i).toNat)
  case atStart => exact ⟨0, by omega, rfl, Own.at _ _ _ (by simp), Own.alloc (Own.new _ _ _) _, ((Below.refl _ _).alloc (Nat.le_refl _) _).alloc (by simp) _⟩
  case round =>
    obtain ⟨k, hk, rfl, hO, hR, hB⟩ := hrel
    have hl := Lib.hid (genL_len n i k)
    have hs := hB.size
    by_cases hlt : (k : Int) < n
    · by_cases hki : (k : Int) = i ∨ (k : Int) = i + 1
      · have e1 : genL n i (k + 1) = genL n i k := by rw [genL, if_pos hki]
        have hO2 : Own wr (w.heap.size + 1) (mcells (genL n i (k + 1))) 5 := by rw [e1]; exact hO
        clear e1 hl
        by_cases g : (k : Int) = i
        · have b1 : ((k : Int) != i) = false := by simp [g]
          clear g hki
          go_wp2
          go_roundw
          case rel => exact ⟨k + 1, by omega, by go_num, hO2, hR, hB⟩
          case measure => simp [intOf]; omega
        · have b1 : ((k : Int) != i) = true := by simp [g]
          have b2 : ((k : Int) != i + 1) = false := by simp; omega
          clear g hki
          go_wp2
          go_roundw
          case rel => exact ⟨k + 1, by omega, by go_num, hO2, hR, hB⟩
          case measure => simp [intOf]; omega
      · have e1 := Lib.hid (show genL n i (k + 1) = joinL (genL n i k) k (n + k) by rw [genL, if_neg hki])
        have g1 : ((k : Int) != i) = true := by simp; omega
        have g2 : ((k : Int) != i + 1) = true := by simp; omega
        clear hki
        go_wp2_with (first
          | (go_at_call 78; ((with_reducible refine (join_any _ _ hl.out k (n + k) _ hO (by omega) (by omega) (by omega) (by omega)).mono ?_); rintro e w2 ⟨rfl, hO2, hN2⟩)))
        rw [← e1.out] at hO2
        have hR3 := hR.only hN2 (by omega)
        have hB3 : Below w.heap.size w w2 := hB.trans (hN2.below.mono (by omega))
        clear hO hR hB hN2 hl
        go_wp2
        go_roundw
        case rel => exact ⟨k + 1, by omega, by go_num, hO2, hR3, hB3⟩
        case measure => simp [intOf]; omega
    · have hk' := Lib.hid (show n.toNat = k by omega)
      go_wp2_with (first
        | (go_at_call 78; ((with_reducible refine (join_any _ (genL n i k) hl.out i (i + 1) _ hO (by omega) (by omega) (by omega) (by omega)).mono ?_); rintro e w2 ⟨rfl, hO2, hN2⟩))
        | (go_at_call 78; ((with_reducible refine (join_any _ _ (joinL_len _ _ _ |>.trans hl.out) (n + i) (n + i + 1) _ hO2 (by omega) (by omega) (by omega) (by omega)).mono ?_); rintro e w3 ⟨rfl, hO3, hN3⟩))
        | (go_at_call 79; ((with_reducible refine (dom_any _ _ (joinL_len _ _ _ |>.trans (joinL_len _ _ _ |>.trans hl.out)) n _ hO3).mono ?_); rintro e w4 ⟨rfl, hB4⟩))
        | (refine wpList_store_own rfl 53 _ _ rfl _ _ rfl rfl 53 _ (((hR.only hN2 (by omega)).only hN3 (by omega)).below hB4 (Nat.lt_of_lt_of_le hR.lt (Nat.le_of_eq (hN2.size.symm.trans hN3.size.symm)))) (row26 (d17 _ _ (joinL_len _ _ _ |>.trans (joinL_len _ _ _ |>.trans hl.out)))) (z_eq (d17 _ _ (joinL_len _ _ _ |>.trans (joinL_len _ _ _ |>.trans hl.out)))) (dcells_one _ _) ?_; intro w5 hO5 hN5))
      have hL : (joinL (joinL (genL n i k) i (i + 1)) (n + i) (n + i + 1)).length = 16 := joinL_len _ _ _ |>.trans (joinL_len _ _ _ |>.trans hl.out)
      have hD : genD n i = joinL (joinL (genL n i k) i (i + 1)) (n + i) (n + i + 1) := by rw [genD, hk'.out]
      rw [hD]
      refine bodyPost_ret (v := .tuple #[.agg (dcells n (joinL (joinL (genL n i k) i (i + 1)) (n + i) (n + i + 1))), .int .i64 0]) (results_row_tmp rfl _ _ _ _ _ (0, 0) _ rfl (hO5) Try.underlying53 rfl (row26 (d17 _ _ (hL))) _ rfl) rfl (⟨rfl, ?_⟩)
      have z1 := hN2.size
      have z2 := hN3.size
      exact (((hB.trans (hN2.below.mono (by omega))).trans (hN3.below.mono (by omega))).trans (hB4.mono (by omega))).trans (hN5.below.mono (Nat.le_refl _))
set_option maxRecDepth 100000 in
theorem genI_bad (n i : Int) (w : World) (h : n < 2 ∨ 8 < n ∨ (2 ≤ n ∧ n ≤ 8 ∧ i < 0) ∨ (2 ≤ n ∧ n ≤ 8 ∧ 0 ≤ i ∧ n - 2 < i)) :
    Calls Try.prog 37 #[.int .i64 n, .int .i64 i] w fun e w' => e = .returned (.tuple #[.agg zcells, .int .i64 2]) ∧ Below w.heap.size w w' := by
  rcases h with h | h | ⟨h2, h8, h⟩ | ⟨h2, h8, h0, h⟩
  all_goals
    go_enter Try.func37, Try.ntmps37
    go_wp2_with (first
      | (refine wpList_build_of rfl 53 #[] rfl zcells ?_ ?_; (exact built26nil)) | (refine wpList_store_own rfl 53 _ _ rfl _ _ rfl rfl 53 _ (Own.new w _ _) (row26 (d17 _ _ (zlen))) (rfl) (dcells_one _ _) ?_; intro w4 hO4 hN4))
    refine bodyPost_ret (v := .tuple #[.agg (zcells), .int .i64 2]) (results_row_tmp rfl _ _ _ _ _ (0, 0) _ rfl (hO4) Try.underlying53 rfl (row26 (d17 _ _ (zlen))) _ rfl) rfl (⟨rfl, ?_⟩)
    refine Below.trans ?_ (hN4.below.mono (Nat.le_refl _))
    exact (Below.refl _ _).alloc (Nat.le_refl _) _
end Go.Proofs.Ytbibmncepjmgcaa
namespace Go.Proofs.Ytbibmncepjmgcaa
open Go.RowKit
set_option maxRecDepth 100000 in
set_option maxHeartbeats 400000 in
theorem eqB_same (ms : List Int) (hms : ms.length = 16) (w : World) :
    Calls Try.prog 120 #[.agg (mcells ms), .agg (mcells ms)] w fun e w' => e = .returned (.bool true) ∧ Below w.heap.size w w' := by
  have hl := Lib.hid hms
  clear hms
  go_enter Try.func120, Try.ntmps120
  go_wp2
  go_loopw [5] (fun i wr => ∃ k : Nat, k ≤ 16 ∧ i = .int .i64 k ∧ Own wr w.heap.size (mcells ms) 51 ∧ Own wr (w.heap.size + 1) (mcells ms) 51 ∧ Below w.heap.size w wr) (fun i _ => (16 - intOf i).toNat)
  case atStart => exact ⟨0, by omega, rfl, Own.alloc (Own.new _ _ _) _, Own.at _ _ _ (by simp), ((Below.refl _ _).alloc (Nat.le_refl _) _).alloc (by simp) _⟩
  case round =>
    obtain ⟨k, hk, rfl, hO, hR, hB⟩ := hrel
    by_cases hlt : k < 16
    · have c1 := hO.cell k
      rw [mcells_get _ _ (by rw [hl.out]; exact hlt)] at c1
      have c2 := hR.cell k
      rw [mcells_get _ _ (by rw [hl.out]; exact hlt)] at c2
      go_wp2
      go_quiet (fail)
      go_wp2
      go_roundw
      case rel => exact ⟨k + 1, by omega, by go_num, hO.drewN _, hR.drewN _, Below.drewN hB _⟩
      case measure => simp [intOf]; omega
    · go_wp2
      go_ret
      exact ⟨rfl, hB⟩
set_option maxRecDepth 100000 in
theorem eqD_same (n : Int) (ms : List Int) (hms : ms.length = 16) (w : World) :
    Calls Try.prog 112 #[.agg (dcells n ms), .agg (dcells n ms)] w fun e w' => e = .returned (.bool true) ∧ Below w.heap.size w w' := by
  have hl := Lib.hid hms
  have c0 := dcells_zero n ms
  clear hms
  go_enter Try.func112, Try.ntmps112
  go_wp2_with (first
    | (refine wpList_load_mid rfl 51 (.tmp 10) rfl _ 1 rfl _ _ (Own.mates ((Own.new _ _ _).alloc _)) Try.underlying51 rfl (len16 hl.out) ?_)
    | (refine wpList_load_mid rfl 51 (.tmp 12) rfl _ 1 rfl _ _ (Own.mates (Own.at _ _ _ (by simp))) Try.underlying51 rfl (len16 hl.out) ?_)
    | (go_at_call 120; refine (eqB_same ms hl.out _).mono ?_; rintro e w1 ⟨rfl, hB1⟩))
  go_ret
  exact ⟨rfl, (((Below.refl _ _).alloc (Nat.le_refl _) _).alloc (by simp) _).trans (hB1.mono (by simp; omega))⟩
end Go.Proofs.Ytbibmncepjmgcaa
namespace Go.Proofs.Ytbibmncepjmgcaa
open Go.RowKit
/-- The first k of the numbers, and zeros behind them. -/
def cpy (ms : List Int) : Nat → List Int
  | 0 => zeros
  | k + 1 => (cpy ms k).set k (ms.getD k 0)
theorem cpy_len (ms : List Int) (k : Nat) : (cpy ms k).length = 16 := by
  induction k with
  | zero => rfl
  | succ k ih => simp [cpy, ih]
theorem cpy_end (ms : List Int) (h : ms.length = 16) : cpy ms 16 = ms := by
  obtain ⟨a0, a1, a2, a3, a4, a5, a6, a7, a8, a9, b0, b1, b2, b3, b4, b5, rfl⟩ := list16 ms h
  rfl
theorem one24 (ms : List Int) : (mcells ms).all (·.oneCell') = true := by simp [mcells, Value.oneCell']
set_option maxRecDepth 100000 in
set_option maxHeartbeats 400000 in
theorem toB_any (ms : List Int) (hms : ms.length = 16) (w : World) :
    Calls Try.prog 116 #[.agg (mcells ms)] w fun e w' => e = .returned (.agg (mcells ms)) ∧ Below w.heap.size w w' := by
  have hl := Lib.hid hms
  clear hms
  go_enter Try.func116, Try.ntmps116
  go_wp2
  go_loopw [4] (fun i wr => ∃ k : Nat, k ≤ 16 ∧ i = .int .i64 k ∧ Own wr w.heap.size (mcells ms) 51 ∧ Own wr (w.heap.size + 1) (mcells zeros) 51 ∧ Own wr (w.heap.size + 2) (mcells (cpy ms k)) 51 ∧ Below w.heap.size w wr) (fun i _ => (16 - intOf i).toNat)
  case atStart => exact ⟨0, by omega, rfl, Own.alloc (Own.alloc (Own.new _ _ _) _) _, Own.alloc (Own.at _ _ _ (by simp)) _, Own.at _ _ _ (by simp), (((Below.refl _ _).alloc (Nat.le_refl _) _).alloc (by simp) _).alloc (by simp; omega) _⟩
  case round =>
    obtain ⟨k, hk, rfl, hO, hR, hT, hB⟩ := hrel
    by_cases hlt : k < 16
    · have c1 := hO.cell k
      rw [mcells_get _ _ (by rw [hl.out]; exact hlt)] at c1
      have c2 := hT.cell k
      rw [mcells_get _ _ (by rw [cpy_len]; exact hlt)] at c2
      have f2 := hT.free k
      have hT2 := hT.set k (.int .u8 (ms.getD k 0))
      rw [mcells_set] at hT2
      have hO2 := hO.other (a := ⟨w.heap.size + 2, k, none⟩) (by simp) (.int .u8 (ms.getD k 0))
      have hR2 := hR.other (a := ⟨w.heap.size + 2, k, none⟩) (by simp) (.int .u8 (ms.getD k 0))
      have hB2 := hB.setCell (p := ⟨w.heap.size + 2, k, none⟩) (by simp) (.int .u8 (ms.getD k 0))
      have K1 := Lib.hid hT2
      have K2 := Lib.hid hO2
      have K3 := Lib.hid hR2
      clear hT2 hO2 hR2
      go_wp2
      go_roundw
      case rel => exact ⟨k + 1, by omega, by go_num, K2.out, K3.out, K1.out, hB2⟩
      case measure => simp [intOf]; omega
    · have hk16 : k = 16 := by omega
      subst hk16
      rw [cpy_end _ hl.out] at hT
      go_wp2_with (first
        | (refine wpList_load_row rfl 51 (.tmp 3) rfl _ rfl 51 _ (0, 0) _ hT Try.underlying51 rfl (row24 (m16 _ hl.out)) ?_)
        | (refine wpList_store_own rfl 51 (.tmp 2) (.tmp 14) rfl _ _ rfl rfl 51 _ hR (row24 (m16 _ hl.out)) (by rw [m16 _ hl.out]; rfl) (one24 _) ?_; intro w4 hO4 hN4))
      refine bodyPost_ret (v := .agg (mcells ms)) (results_cell_row rfl _ _ _ _ _ (0, 0) _ rfl hO4 Try.underlying51 rfl (row24 (m16 _ hl.out))) rfl ⟨rfl, hB.trans (hN4.below.mono (by omega))⟩
/-- A diagram's number of cells, in the laws' own type. -/
theorem row50 {c : Array Value} (h : c.size = 17) : (Try.prog.info? 95).map (·.size) = some c.size := by
  rw [h]; kernel_rfl
def setMany (cs : Array Value) : Nat → List Value → Array Value
  | _, [] => cs
  | o, v :: r => setMany (cs.setIfInBounds o v) (o + 1) r
theorem Own.many {b : Nat} {t : TypeId} : ∀ (vs : List Value) (o : Nat) {w : World} {cs : Array Value}, Own w b cs t → Own (w.setCells b o vs) b (setMany cs o vs) t
  | [], _, _, _, h => h
  | v :: r, o, _, _, h => Own.many r (o + 1) (h.set o v)
theorem Only.many {b : Nat} : ∀ (vs : List Value) (o : Nat) (w : World), Only b w (w.setCells b o vs)
  | [], _, w => Only.refl b w
  | v :: r, o, w => (Only.set b o w v).trans (Only.many r (o + 1) _)
theorem many_mates (n : Int) (ms0 ms : List Int) (h0 : ms0.length = 16) (h : ms.length = 16) : setMany (dcells n ms0) 1 (mcells ms).toList = dcells n ms := by
  obtain ⟨a0, a1, a2, a3, a4, a5, a6, a7, a8, a9, b0, b1, b2, b3, b4, b5, rfl⟩ := list16 ms h
  obtain ⟨c0, c1, c2, c3, c4, c5, c6, c7, c8, c9, e0, e1, e2, e3, e4, e5, rfl⟩ := list16 ms0 h0
  kernel_rfl
/-- The mates of a diagram are stored, as a whole. -/
theorem wpList_store_mates {P : Program} {ops : Array Oper} {rest : List Oper} {o : Oper} {a : Act} {w : World} {Q : Exit → Act → World → Prop} (hgd : o.guard = none) (ty : TypeId) (x y : Operand) (ho : o.op = .store ty x y)
    (g : Nat) (n : Int) (ms ms0 : List Int) (hx : a.eval x = .pointer (some ⟨g, 1, none⟩)) (hy : a.eval y = .agg (mcells ms))
    (t : TypeId) (hg : Own w g (dcells n ms0) t) (h0 : ms0.length = 16) (h1 : ms.length = 16) (hi : (P.info? ty).map (·.size) = some (mcells ms).size)
    (h : ∀ w', Own w' g (dcells n ms) t → Only g w w' → wpList P ops Q rest (a.put o.dst undef) w') : wpList P ops Q (o :: rest) a w := by
  have hth : w.there g 1 (mcells ms).size := by
    intro j hj
    rw [m16 ms h1] at hj
    refine ⟨?_, hg.free _⟩
    rw [hg.cell, dcells_get n ms0 j (by omega)]
    rfl
  refine wpList_store_mid hgd ty x y ho g 1 (mcells ms) hx hy hth hi (one24 ms) (h _ ?_ (Only.many _ _ _))
  have := hg.many (mcells ms).toList 1
  rwa [many_mates n ms0 ms h0 h1] at this
set_option maxRecDepth 100000 in
set_option maxHeartbeats 400000 in
theorem toD_any (n : Int) (ms : List Int) (hms : ms.length = 16) (w : World) :
    Calls Try.prog 106 #[.agg (dcells n ms)] w fun e w' => e = .returned (.agg (dcells n ms)) ∧ Below w.heap.size w w' := by
  have hl := Lib.hid hms
  have c0 := dcells_zero n ms
  clear hms
  go_enter Try.func106, Try.ntmps106
  go_wp2_with (first
    | (refine wpList_load_mid rfl 51 (.tmp 7) rfl _ 1 rfl _ _ (Own.mates (((Own.new _ _ _).alloc _).alloc _)) Try.underlying51 rfl (len16 hl.out) ?_)
    | (go_at_call 116; refine (toB_any ms hl.out _).mono ?_; rintro e w1 ⟨rfl, hB1⟩)
    | (refine wpList_store_mates rfl 51 (.tmp 10) (.tmp 9) rfl (w.heap.size + 1 + 1) n ms zeros rfl rfl 53 ((Own.at _ _ _ (by simp)).below hB1 (by simp)) zlen hl.out (row24 (m16 _ hl.out)) ?_; intro w2 hO2 hN2)
    | (refine wpList_load_row rfl 53 _ rfl _ rfl 53 _ (0, 0) _ (hO2) Try.underlying53 rfl (row26 (d17 _ _ (hl.out))) ?_)
    | (refine wpList_store_own rfl 53 _ _ rfl _ _ rfl rfl 53 _ (((Own.alloc (Own.at (w.alloc _) _ _ (by simp)) _).below hB1 (by simp <;> omega)).only hN2 (by omega)) (row26 (d17 _ _ (hl.out))) (z_eq (d17 _ _ hl.out)) (dcells_one _ _) ?_; intro w3 hO3 hN3))
  refine bodyPost_ret (v := .agg (dcells n ms)) (results_cell_row rfl _ _ _ _ _ (0, 0) _ rfl (hO3) Try.underlying53 rfl (row26 (d17 _ _ (hl.out)))) rfl (⟨rfl, ?_⟩)
  have b0 : Below w.heap.size w (((w.alloc (.cells (dcells n ms) 95)).alloc (.cells zcells 53)).alloc (.cells (dcells n zeros) 53)) := (((Below.refl _ _).alloc (Nat.le_refl _) _).alloc (by simp) _).alloc (by simp; omega) _
  have b1 : Below w.heap.size w w1 := b0.trans (hB1.mono b0.size)
  exact (b1.trans (hN2.below.mono (by omega))).trans (hN3.below.mono (by omega))
end Go.Proofs.Ytbibmncepjmgcaa
