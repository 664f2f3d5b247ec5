/- Words and small laws of memory blocks that the walks of this seat share: a block of cells that the call owns, and the cells of a diagram. -/
import Derived.Test.YtmcffhafonemeaaRows
import Derived.WalkKit
import Derived.WalkSpells
import Derived.WalkLawsBesides
import Derived.Lib.Hide
import Derived.Deep.MidRow
import Derived.Deep.Draws
namespace Go.Proofs.Ytmcffhafonemeaa
open Go.RowKit

/-- The cells of a list of bytes, of a list of mates in a slice. -/
def mcells (ms : List Int) : Array Value := (ms.map (Value.int .u8)).toArray
/-- The cells of a diagram. -/
def dcells (n : Int) (ms : List Int) : Array Value := (Value.int .i64 n :: ms.map (Value.int .u8)).toArray
/-- A diagram as a value. -/
def dval (n : Int) (ms : List Int) : Value := .agg (dcells n ms)

/-- A block of cells that is not frozen. -/
def Own (w : World) (b : Nat) (cs : Array Value) (t : TypeId) : Prop := w.heap[b]? = some (.cells cs t (0, 0))

theorem Own.cell {w : World} {b : Nat} {cs : Array Value} {t : TypeId} (h : Own w b cs t) (i : Nat) : w.cell? ⟨b, i, none⟩ = cs[i]? := by
  simp [World.cell?, show w.heap[b]? = _ from h]
theorem Own.free {w : World} {b : Nat} {cs : Array Value} {t : TypeId} (h : Own w b cs t) (i : Nat) : w.frozen? ⟨b, i, none⟩ = false := by
  simp [World.frozen?, show w.heap[b]? = _ from h]
theorem Own.lt {w : World} {b : Nat} {cs : Array Value} {t : TypeId} (h : Own w b cs t) : b < w.heap.size := lt_of_block h
theorem Own.set {w : World} {b : Nat} {cs : Array Value} {t : TypeId} (h : Own w b cs t) (i : Nat) (v : Value) : Own (w.setCell ⟨b, i, none⟩ v) b (cs.setIfInBounds i v) t := by
  have hlt := h.lt
  have h' : w.heap[b] = .cells cs t (0, 0) := by have := show w.heap[b]? = _ from h; simpa [Array.getElem?_eq_getElem hlt] using this
  show (w.heap.modify b _)[b]? = _
  rw [Array.getElem?_eq_getElem (by simpa using hlt), Array.getElem_modify_self, h']
  rfl
theorem Own.other {w : World} {b : Nat} {cs : Array Value} {t : TypeId} (h : Own w b cs t) {a : Addr} (ha : a.block ≠ b) (v : Value) : Own (w.setCell a v) b cs t := by
  show (w.setCell a v).heap[b]? = _
  rw [Below.heap_setCell _ _ _ _ (fun e => ha e.symm)]; exact h
theorem Own.new (w : World) (cs : Array Value) (t : TypeId) : Own (w.alloc (.cells cs t)) w.heap.size cs t := heap_alloc_new w _
theorem Own.at (w : World) (cs : Array Value) (t : TypeId) {b : Nat} (h : w.heap.size = b) : Own (w.alloc (.cells cs t)) b cs t := by subst h; exact heap_alloc_new w _
theorem Own.alloc {w : World} {b : Nat} {cs : Array Value} {t : TypeId} (h : Own w b cs t) (o : Obj) : Own (w.alloc o) b cs t := by
  show (w.alloc o).heap[b]? = _
  rw [Below.heap_alloc w o b h.lt]; exact h
theorem Own.below {w w' : World} {b B : Nat} {cs : Array Value} {t : TypeId} (h : Own w b cs t) (hb : Below B w w') (hB : b < B) : Own w' b cs t := by
  show w'.heap[b]? = _
  rw [hb.block b hB]; exact h

theorem mcells_size (ms : List Int) : (mcells ms).size = ms.length := by simp [mcells]
theorem dcells_size (n : Int) (ms : List Int) : (dcells n ms).size = ms.length + 1 := by simp [dcells]
theorem mcells_get (ms : List Int) (i : Nat) (h : i < ms.length) : (mcells ms)[i]? = some (.int .u8 (ms.getD i 0)) := by
  simp [mcells, h]
theorem dcells_zero (n : Int) (ms : List Int) : (dcells n ms)[0]? = some (.int .i64 n) := by simp [dcells]
theorem dcells_get (n : Int) (ms : List Int) (i : Nat) (h : i < ms.length) : (dcells n ms)[1 + i]? = some (.int .u8 (ms.getD i 0)) := by
  rw [Nat.add_comm]; simp [dcells, h]
theorem mcells_set (ms : List Int) (i : Nat) (x : Int) : (mcells ms).setIfInBounds i (.int .u8 x) = mcells (ms.set i x) := by
  simp [mcells, List.map_set]
theorem dcells_set (n : Int) (ms : List Int) (i : Nat) (x : Int) : (dcells n ms).setIfInBounds (1 + i) (.int .u8 x) = dcells n (ms.set i x) := by
  rw [Nat.add_comm]; simp [dcells, List.map_set]
theorem dcells_setn (n n' : Int) (ms : List Int) : (dcells n ms).setIfInBounds 0 (.int .i64 n') = dcells n' ms := by
  simp [dcells]


theorem dcells_one (n : Int) (ms : List Int) : (dcells n ms).all (·.oneCell') = true := by
  simp [dcells, Value.oneCell']
theorem d17 (n : Int) (ms : List Int) (h : ms.length = 16) : (dcells n ms).size = 17 := by rw [dcells_size, h]

/-- Behind a store of a whole row. -/
theorem Own.row {w : World} {b : Nat} {cs : Array Value} {t : TypeId} (h : Own w b cs t) (c : Array Value) : Own (w.setRow b c) b c t := by
  have hlt := h.lt
  have h' : w.heap[b] = .cells cs t (0, 0) := by have := show w.heap[b]? = _ from h; simpa [Array.getElem?_eq_getElem hlt] using this
  show (w.heap.modify b _)[b]? = _
  rw [Array.getElem?_eq_getElem (by simpa using hlt), Array.getElem_modify_self, h']
theorem Own.rowOther {w : World} {b g : Nat} {cs : Array Value} {t : TypeId} (h : Own w b cs t) (hg : g ≠ b) (c : Array Value) : Own (w.setRow g c) b cs t := by
  show (w.heap.modify g _)[b]? = _
  rw [Array.getElem?_modify, if_neg hg]; exact h
theorem Below.row {B : Nat} {a w : World} (h : Below B a w) {g : Nat} (hg : B ≤ g) (c : Array Value) : Below B a (w.setRow g c) :=
  h.trans ⟨rfl, rfl, rfl, by simp [World.setRow], fun k hk => by simp only [World.setRow, Array.getElem?_modify]; rw [if_neg (by omega)]⟩


theorem wpList_build_of {P : Program} {ops : Array Oper} {rest : List Oper} {o : Oper} {a : Act} {w : World} {Q : Exit → Act → World → Prop} (hg : o.guard = none) (t : TypeId) (parts : Array (Nat × Operand)) (ho : o.op = .build t parts)
    (cs : Array Value) (hf : P.built t (parts.toList.map fun (i, x) => (i, a.eval x)) = some cs)
    (h : wpList P ops Q rest (a.put o.dst (.agg cs)) w) : wpList P ops Q (o :: rest) a w :=
  wpList_build hg t parts ho (by rw [Array.toList_map, hf]; rfl) (by rw [Array.toList_map, hf]; exact h)

/-- Only block b may have turned, and no block is new. -/
structure Only (b : Nat) (w w' : World) : Prop where
  below : Below b w w'
  size : w'.heap.size = w.heap.size
  other : ∀ k, k ≠ b → w'.heap[k]? = w.heap[k]?
theorem Only.refl (b : Nat) (w : World) : Only b w w := ⟨Below.refl _ _, rfl, fun _ _ => rfl⟩
theorem Only.trans {b : Nat} {u v w : World} (h : Only b u v) (k : Only b v w) : Only b u w :=
  ⟨h.below.trans k.below, k.size.trans h.size, fun i hi => (k.other i hi).trans (h.other i hi)⟩
theorem Only.set (b i : Nat) (w : World) (v : Value) : Only b w (w.setCell ⟨b, i, none⟩ v) :=
  ⟨Below.setCell (p := ⟨b, i, none⟩) (Below.refl b w) (Nat.le_refl _) v, by simp [World.setCell], fun k hk => Below.heap_setCell _ _ _ _ hk⟩
theorem Own.only {w w' : World} {b g : Nat} {cs : Array Value} {t : TypeId} (h : Own w g cs t) (ho : Only b w w') (hg : g ≠ b) : Own w' g cs t := by
  show w'.heap[g]? = _
  rw [ho.other g hg]; exact h

/-- Two points become the ends of one line. -/
def joinL (ms : List Int) (i j : Int) : List Int := (ms.set i.toNat j).set j.toNat i
theorem joinL_len (ms : List Int) (i j : Int) : (joinL ms i j).length = ms.length := by simp [joinL]
def zeros : List Int := List.replicate 16 0

theorem m16 (ms : List Int) (h : ms.length = 16) : (mcells ms).size = 16 := by rw [mcells_size, h]

theorem list16 (ms : List Int) (h : ms.length = 16) : ∃ a0 a1 a2 a3 a4 a5 a6 a7 a8 a9 b0 b1 b2 b3 b4 b5 : Int, ms = [a0, a1, a2, a3, a4, a5, a6, a7, a8, a9, b0, b1, b2, b3, b4, b5] := by
  match ms, h with
  | [a0, a1, a2, a3, a4, a5, a6, a7, a8, a9, b0, b1, b2, b3, b4, b5], _ => exact ⟨a0, a1, a2, a3, a4, a5, a6, a7, a8, a9, b0, b1, b2, b3, b4, b5, rfl⟩


theorem Only.row (w : World) (b : Nat) (c : Array Value) : Only b w (w.setRow b c) :=
  ⟨Below.row (Below.refl _ _) (Nat.le_refl _) _, by simp [World.setRow], fun k hk => by simp only [World.setRow, Array.getElem?_modify]; rw [if_neg (by omega)]⟩
/-- A whole row is stored: the world behind it is known by what it holds. -/
theorem wpList_store_own {P : Program} {ops : Array Oper} {rest : List Oper} {o : Oper} {a : Act} {w : World} {Q : Exit → Act → World → Prop} (hgd : o.guard = none) (ty : TypeId) (x y : Operand) (ho : o.op = .store ty x y)
    (g : Nat) (cells : Array Value) (hx : a.eval x = .pointer (some ⟨g, 0, none⟩)) (hy : a.eval y = .agg cells)
    (t : TypeId) (old : Array Value) (hg : Own w g old t) (hi : (P.info? ty).map (·.size) = some cells.size)
    (hold : old.size = cells.size) (h1 : cells.all (·.oneCell') = true)
    (h : ∀ w', Own w' g cells t → Only g w w' → wpList P ops Q rest (a.put o.dst undef) w') : wpList P ops Q (o :: rest) a w :=
  wpList_store_row hgd ty x y ho g cells hx hy t old hg hi hold h1 (h _ (hg.row _) (Only.row _ _ _))
/-- The zero value's cells. -/
def zcells : Array Value := dcells 0 zeros
theorem zlen : zeros.length = 16 := rfl
theorem z17 : zcells.size = 17 := rfl
theorem dz (n : Int) (ms : List Int) (h : ms.length = 16) : zcells.size = (dcells n ms).size := by rw [z17, d17 _ _ h]
theorem dd (n n' : Int) (ms ms' : List Int) (h : ms.length = 16) (h' : ms'.length = 16) : (dcells n ms).size = (dcells n' ms').size := by rw [d17 _ _ h, d17 _ _ h']


/-- Two results, the first in a variable of its own. -/
theorem results_row_tmp {P : Program} {fn : Func} {p u : Tmp} {ty : TypeId} (h : fn.results = #[.cell p ty, .tmp u]) (tmps : Array Value) (w : World) (g : Nat) (t : TypeId) (cs : Array Value) (fr : Nat × Nat) (d : TypeDesc)
    (hp : tmps.getD p undef = .pointer (some ⟨g, 0, none⟩)) (hg : w.heap[g]? = some (.cells cs t fr))
    (hu : P.underlying ty = some d) (hd : (match d with | .struct _ | .array _ _ => true | _ => false) = true) (hi : (P.info? ty).map (·.size) = some cs.size) (v : Value) (hv : tmps.getD u undef = v) :
    (results fn tmps).run P w = .ok (.tuple #[.agg cs, v]) w := by
  rw [results_cell_tmp h, hp, hv]
  simp [asAddr, run_loadVar_row w g t ty cs fr d hg hu hd hi, Result.andThen]
theorem Own.mates {w : World} {b : Nat} {n : Int} {ms : List Int} {t : TypeId} (h : Own w b (dcells n ms) t) : w.rangeAt b 1 (ms.map (Value.int .u8)) := by
  intro j v hj
  rw [h.cell, Nat.add_comm]
  simpa [dcells] using hj
theorem Own.mrow {w : World} {b : Nat} {ms : List Int} {t : TypeId} (h : Own w b (mcells ms) t) : w.rangeAt b 0 (ms.map (Value.int .u8)) := by
  intro j v hj
  rw [h.cell, Nat.zero_add]
  simpa [mcells] using hj
theorem z_eq {c : Array Value} (h : c.size = 17) : zcells.size = c.size := by rw [h]; rfl

theorem Own.drewN {w : World} {b : Nat} {cs : Array Value} {t : TypeId} (h : Own w b cs t) (n : Nat) : Own (w.drewN n) b cs t := h
theorem Below.drewN {B : Nat} {a w : World} (h : Below B a w) (n : Nat) : Below B a (w.drewN n) := h.trans ⟨rfl, rfl, rfl, Nat.le_refl _, fun _ _ => rfl⟩
theorem Only.drewN {b : Nat} {a w : World} (h : Only b a w) (n : Nat) : Only b a (w.drewN n) := ⟨Below.drewN h.below n, h.size, h.other⟩

end Go.Proofs.Ytmcffhafonemeaa
