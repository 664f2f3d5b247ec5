/- Bytes of a text that the call has copied: a row that bears a conversion's mark beyond its end, and an append to it. -/
import Derived.Test.YtopenojociafaaaDoorTextM
import Derived.Lib.ConvBytes
import Derived.Lib.FrozenHead
namespace Go.Proofs.YtopenojociafaaaDoor
open Go.RowKit Go.Lib
/-- Block g, of a number at least base, holds the numbers xs, and has room for cap; what is marked lies beyond. -/
def Byf (w : World) (base g cap : Nat) (xs : List Int) : Prop :=
  base ≤ g ∧ xs.length ≤ cap ∧ cap ≤ maxLen ∧ ∃ (cur : Array Value) (fz : Nat × Nat), w.heap[g]? = some (.cells cur 5 fz) ∧ (fz = (0, 0) ∨ cap ≤ fz.1) ∧ cur.size = cap ∧ cur.toList.take xs.length = xs.map (Value.int .u8)
theorem Byf.lt {w : World} {base g cap : Nat} {xs : List Int} (h : Byf w base g cap xs) : g < w.heap.size := by
  obtain ⟨_, _, _, cur, fz, ho, _⟩ := h; exact (Array.getElem?_eq_some_iff.1 ho).1
theorem Byf.cell {w : World} {base g cap : Nat} {xs : List Int} (h : Byf w base g cap xs) (j : Nat) (hj : j < xs.length) : w.cell? ⟨g, j, none⟩ = some (.int .u8 (xs.getD j 0)) := by
  obtain ⟨_, h2, _, cur, fz, ho, _, hs, ht⟩ := h
  have e0 : w.cell? ⟨g, j, none⟩ = cur[j]? := by simp [World.cell?, ho]
  rw [e0]
  have e : (cur.toList.take xs.length)[j]? = (xs.map (Value.int .u8))[j]? := by rw [ht]
  rw [List.getElem?_take_of_lt hj] at e
  simpa [hj] using e
theorem Byf.kept {w w' : World} {base g cap : Nat} {xs : List Int} (h : Byf w base g cap xs) (hb : w'.heap[g]? = w.heap[g]?) : Byf w' base g cap xs := by
  obtain ⟨h1, h2, h3, cur, fz, ho, r⟩ := h
  exact ⟨h1, h2, h3, cur, fz, by rw [hb]; exact ho, r⟩
theorem Byf.alloc {w : World} {base g cap : Nat} {xs : List Int} (h : Byf w base g cap xs) (o : Obj) : Byf (w.alloc o) base g cap xs :=
  h.kept (Below.heap_alloc w o g h.lt)
theorem Byf.grown {w w' : World} {base g cap b : Nat} {xs : List Int} (h : Byf w base g cap xs) (hg : w.grownBy w' (some b)) (hb : g ≠ b) : Byf w' base g cap xs :=
  h.kept (hg.block g h.lt (fun e => hb (by simpa using e)))
theorem Byf.below {w w' : World} {base g cap B : Nat} {xs : List Int} (h : Byf w base g cap xs) (hb : Below B w w') (hB : g < B) : Byf w' base g cap xs :=
  h.kept (hb.block g hB)
/-- One cell is stored where nothing is marked. -/
theorem storeCells_one (P : Program) (g o : Nat) (t : TypeId) (fz : Nat × Nat) (v : Value) (cur : Array Value) (w : World) (hg : w.heap[g]? = some (.cells cur t fz)) (hfz : fz = (0, 0) ∨ cur.size ≤ fz.1) (hl : o < cur.size) (h1 : v.oneCell' = true) :
    (storeCells ⟨g, o, none⟩ [v] 0).run P w = .ok () (w.setRow g (cur.toList.take o ++ [v] ++ cur.toList.drop (o + 1)).toArray) := by
  have hadd : (⟨g, o, none⟩ : Addr).add 0 = ⟨g, o, none⟩ := by unfold Addr.add; split <;> simp_all
  have hcell : w.cell? ⟨g, o, none⟩ = some cur[o] := by simp [World.cell?, hg, hl]
  have hfro : w.frozen? ⟨g, o, none⟩ = false := by
    obtain ⟨lo, hi'⟩ := fz
    simp only [World.frozen?, hg, Bool.and_eq_false_iff, decide_eq_false_iff_not]
    rcases hfz with e | e
    · simp only [Prod.mk.injEq] at e; right; omega
    · left; simp only at e; omega
  have hst : (store ((⟨g, o, none⟩ : Addr).add 0) v).run P w = .ok () (w.setRow g (cur.setIfInBounds o v)) := by
    rw [hadd, run_store P w _ v _ h1, hcell]
    simp [hfro, setCell_eq_setRow w g o cur t fz v hg]
  simp only [storeCells, Sem.run_bind, hst, Result.andThen_ok, Sem.run_pure]
  congr 3
  refine Array.toList_inj.1 (List.ext_getElem? fun i => ?_)
  simp only [Array.toList_setIfInBounds]
  rw [List.getElem?_set]
  have hlen : (cur.toList.take o).length = o := by simp; omega
  by_cases e : o = i
  · subst e
    rw [if_pos rfl, if_pos (by simpa using hl), List.append_assoc, List.getElem?_append_right (by omega), hlen]; simp
  · rw [if_neg e]
    by_cases c : i < o
    · rw [List.append_assoc, List.getElem?_append_left (by omega), List.getElem?_take_of_lt c]
    · rw [List.append_assoc, List.getElem?_append_right (by omega), hlen]
      have : i - o = (i - o - 1) + 1 := by omega
      rw [this, List.singleton_append, List.getElem?_cons_succ, List.getElem?_drop]
      congr 1; omega
theorem run_append_byf (w : World) (ty : TypeId) (base g cap : Nat) (xs : List Int) (y : Int) (hi : Byf w base g cap xs) (ad : Addr) (c : Nat)
    (hy : w.cell? ad = some (.int .u8 y)) (hl : xs.length < 4194304) (hbase : base ≤ w.heap.size) :
    ∃ v' w', (Builtin.append_ #[69, 69] ty #[bval g cap xs, .slice (some ad) 1 c]).run Tryd.prog w = .ok v' w' ∧ (∃ g' cap', v' = bval g' cap' (xs ++ [y]) ∧ Byf w' base g' cap' (xs ++ [y])) ∧ w.grownBy w' (some g) := by
  obtain ⟨i0, hi0, hz0, hz1, hz2⟩ := info_parts info8
  obtain ⟨h1, h2, h3, cur, fz, ho, hfz, hs, ht⟩ := hi
  have hnews : ∀ j u, ([Value.int .u8 y] : List Value)[j]? = some u → w.cell? (ad.add j) = some u := by
    intro j u hj
    match j, hj with
    | 0, hj =>
      simp at hj; subst hj
      have e : ad.add 0 = ad := by unfold Addr.add; split <;> simp_all
      rw [e]; exact hy
    | j + 1, hj => simp at hj
  have hu := Tryd.underlying69
  by_cases hroom : xs.length + 1 ≤ cap
  · have hf := run_firstCells_some (P := Tryd.prog) w i0.size 1 ad 1 c [.int .u8 y] (by rw [hz1]; rfl) hnews
    have hst := storeCells_one Tryd.prog g (xs.length * i0.size) 5 fz (.int .u8 y) cur w ho (by rw [hs]; exact hfz) (by rw [hz1]; omega) rfl
    have hr : (Builtin.append_ #[69, 69] ty #[bval g cap xs, .slice (some ad) 1 c]).run Tryd.prog w =
        .ok (.slice (some ⟨g, 0, none⟩) (xs.length + 1) cap) (w.setRow g (cur.toList.take (xs.length * i0.size) ++ [Value.int .u8 y] ++ cur.toList.drop (xs.length * i0.size + 1)).toArray) := by
      simp [bval, Builtin.append_, run_underlying hu, sizeOf, typeInfo, hi0, Builtin.lenOf, hroom, hf, Addr.add_lit, hst]
    rw [hz1, Nat.mul_one] at hr
    refine ⟨_, _, hr, ⟨g, cap, by simp [bval], h1, by simpa using hroom, h3, _, fz, setRow_heap w g cur _ _ _ ho, hfz, ?_, ?_⟩, ⟨rfl, rfl, rfl, by simp, fun k _ hk => setRow_other w g k _ (fun e => hk (by simp [e]))⟩⟩
    · simp only [List.size_toArray, List.length_append, List.length_take, List.length_drop, Array.length_toList, List.length_cons, List.length_nil]
      omega
    · rw [ht]
      have e : (xs ++ [y]).length = (xs.map (Value.int .u8) ++ [Value.int .u8 y]).length := by simp
      simp only [e, List.map_append, List.map_cons, List.map_nil]
      exact List.take_left
  · have holds : ∀ j u, (xs.map (Value.int .u8))[j]? = some u → w.cell? ((⟨g, 0, none⟩ : Addr).add j) = some u := by
      intro j u hu
      have hadd : (⟨g, 0, none⟩ : Addr).add j = ⟨g, j, none⟩ := by unfold Addr.add; split <;> simp_all
      have hj : j < xs.length := by
        have := (List.getElem?_eq_some_iff.1 hu).1; simpa using this
      rw [hadd, Byf.cell ⟨h1, h2, h3, cur, fz, ho, hfz, hs, ht⟩ j hj]
      simpa [hj] using hu
    have hr := run_append_grow (P := Tryd.prog) w 69 ty 5 i0 (.int .u8 0) hu hi0 hz0 ⟨g, 0, none⟩ xs.length cap (xs.map (Value.int .u8)) (by rw [hz1]; simp) holds ad 1 c [.int .u8 y] (by rw [hz1]; rfl) hnews (by omega) (by omega) (by rw [hz2]; exact growslice_fits (by omega) (by omega))
    have hge := grownCap_ge w (xs.length + 1) cap 5
    have hcm2 : grownCap w (xs.length + 1) cap 5 ≤ maxLen := grownCap_le_maxLen w (xs.length + 1) cap 5 (by unfold maxLen; omega)
    refine ⟨_, _, hr, ⟨w.heap.size, grownCap w (xs.length + 1) cap 5, by simp [bval], hbase, by simpa using hge, hcm2, _, (0, 0), heap_alloc_new w.drew _, .inl rfl, ?_, ?_⟩, ⟨rfl, rfl, rfl, by simp, fun k hk _ => Below.heap_alloc w.drew _ k hk⟩⟩
    · have hz : (Value.int .u8 0).cells.size = 1 := rfl
      simp only [Array.size_append, List.size_toArray, size_zeroCells, hz, List.length_map, List.length_cons, List.length_nil]
      omega
    · have e : (xs ++ [y]).length = (xs.map (Value.int .u8) ++ [Value.int .u8 y]).length := by simp
      simp only [Array.toList_append, e, List.map_append, List.map_cons, List.map_nil]
      exact List.take_left
/-- One byte is appended. -/
theorem wpList_append_byf {ops : Array Oper} {rest : List Oper} {o : Oper} {a : Act} {w : World} {Q : Exit → Act → World → Prop} (hgd : o.guard = none) (s x : Operand)
    (ho : o.op = .call { callee := .builtin .append, args := #[s, x], argTypes := #[69, 69] })
    (base g cap : Nat) (xs : List Int) (y : Int) (hs : a.eval s = bval g cap xs) (hi : Byf w base g cap xs) (ad : Addr) (c : Nat)
    (hx : a.eval x = .slice (some ad) 1 c) (hy : w.cell? ad = some (.int .u8 y)) (hl : xs.length < 4194304) (hbase : base ≤ w.heap.size)
    (h : ∀ g' cap' w', Byf w' base g' cap' (xs ++ [y]) → w.grownBy w' (some g) → wpList Tryd.prog ops Q rest (a.put o.dst (bval g' cap' (xs ++ [y]))) w') : wpList Tryd.prog ops Q (o :: rest) a w := by
  refine wpList_plain hgd fun K hK => ?_
  obtain ⟨v', w', hr, ⟨g', cap', rfl, hB⟩, hG⟩ := run_append_byf w o.type base g cap xs y hi ad c hy hl hbase
  unfold Oper.wp execOp
  simp only [ho, resolve, invoke, builtin, Sem.run_bind, Sem.run_pure, Result.andThen_ok, List.map_toArray, List.map_cons, List.map_nil, hs, hx, hr]
  exact hK _ _ (h g' cap' w' hB hG)
/-- The bytes of a text as numbers. -/
def LI (l : List UInt8) : List Int := l.map fun c => ((c.toNat : Nat) : Int)
theorem LI_len (l : List UInt8) : (LI l).length = l.length := by simp [LI]
theorem LI_str (l : List UInt8) : strOfNums (LI l) = ⟨l.toArray⟩ := by
  unfold strOfNums LI
  congr 2
  rw [List.map_map]
  conv => rhs; rw [← List.map_id l]
  apply List.map_congr_left
  intro c _
  simp
/-- Behind a conversion of a text. -/
theorem Byf.conv (w : World) (base : Nat) (s : ByteArray) (hb : base ≤ w.heap.size) (hs : s.size ≤ 4194304) : Byf (bytesWorld w 5 s) base w.heap.size (grownCap w s.size 0 5) (LI s.data.toList) := by
  have hge := grownCap_ge w s.size 0 5
  have hcm2 : grownCap w s.size 0 5 ≤ maxLen := grownCap_le_maxLen w s.size 0 5 (by unfold maxLen; omega)
  have hsz : (bytesCells w 5 s).size = grownCap w s.size 0 5 := by
    unfold bytesCells
    have : s.data.size = s.size := rfl
    simp [this]; omega
  refine ⟨hb, by rw [LI_len, Array.length_toList]; exact hge, hcm2, _, _, bytesWorld_at_new w _ s, .inr (by rw [hsz]; exact Nat.le_refl _), hsz, ?_⟩
  have e : (LI s.data.toList).length = (s.data.toList.map fun b => Value.int .u8 b.toNat).length := by simp [LI]
  rw [e]
  unfold bytesCells
  rw [Array.toList_append]
  have e2 : (s.data.map fun b => Value.int .u8 b.toNat).toList = s.data.toList.map fun b => Value.int .u8 b.toNat := by simp
  rw [e2, List.take_left]
  simp [LI]
theorem below_conv (w : World) (B : Nat) (s : ByteArray) (hB : B ≤ w.heap.size) : Below B w (bytesWorld w 5 s) :=
  ⟨rfl, rfl, rfl, by rw [bytesWorld_size]; omega, fun k hk => bytesWorld_at_old w _ s k (by omega)⟩
end Go.Proofs.YtopenojociafaaaDoor
