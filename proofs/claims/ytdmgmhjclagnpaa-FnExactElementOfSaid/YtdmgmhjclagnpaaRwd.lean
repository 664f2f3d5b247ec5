/- Slices of diagrams that the call has made, or nil: rows of seventeen cells; and a byte appended where there is room. -/
import Derived.Test.YtdmgmhjclagnpaaDiaB
import Derived.Test.YtdmgmhjclagnpaaTerm
import Derived.Test.YtdmgmhjclagnpaaBys
import Derived.Maps.AppendAt
namespace Go.Proofs.Ytdmgmhjclagnpaa
open Go.RowKit
set_option linter.unusedVariables false
set_option linter.unusedSimpArgs false
abbrev DgR := Int × List Int
def drl (ds : List DgR) : List Value := ds.flatMap (fun d => (dcells d.1 d.2).toList)
def LD16 (ds : List DgR) : Prop := ∀ d ∈ ds, d.2.length = 16
theorem drl_app (a b : List DgR) : drl (a ++ b) = drl a ++ drl b := by simp [drl]
theorem drl_len (ds : List DgR) (h : LD16 ds) : (drl ds).length = 17 * ds.length := by
  induction ds with
  | nil => rfl
  | cons d ds ih =>
    have := ih (fun x hx => h x (by simp [hx]))
    show ((dcells d.1 d.2).toList ++ drl ds).length = _
    rw [List.length_append, dl17 (h d (by simp)), this]; simp; omega
theorem drl_get (ds : List DgR) (h : LD16 ds) (i : Nat) (hi : i < ds.length) (j : Nat) (hj : j < 17) : (drl ds)[17 * i + j]? = ((dcells (ds[i]).1 (ds[i]).2).toList)[j]? := by
  induction ds generalizing i with
  | nil => simp at hi
  | cons d ds ih =>
    have h0 := dl17 (n := d.1) (h d (by simp))
    show ((dcells d.1 d.2).toList ++ drl ds)[17 * i + j]? = _
    cases i with
    | zero => rw [List.getElem?_append_left (by omega)]; simp
    | succ i =>
      rw [List.getElem?_append_right (by omega), h0, show 17 * (i + 1) + j - 17 = 17 * i + j by omega]
      simpa using ih (fun x hx => h x (by simp [hx])) i (by simpa using hi)
theorem one_drl (ds : List DgR) : ∀ u ∈ drl ds, u.oneCell' = true := by
  intro u hu
  obtain ⟨d, _, hd⟩ := List.mem_flatMap.1 hu
  have := dcells_one d.1 d.2
  rw [← Array.all_toList, List.all_eq_true] at this
  exact this u hd
/-- A slice of diagrams, as the laws on append see it. -/
def RowD (w : World) (base : Nat) (v : Value) (ds : List DgR) : Prop := w.ownsRow base 53 17 v ds.length (drl ds)
theorem RowD.kept {w w' : World} {base : Nat} {v : Value} {ds : List DgR} (h : RowD w base v ds) (hs : ∀ g, v.ownBlock = some g → w'.heap[g]? = w.heap[g]?) : RowD w' base v ds := by
  obtain ⟨h1, h2 | ⟨g, cap, cur, hv, hg, hh, hn, hcap, hsz, htake⟩⟩ := h
  · exact ⟨h1, .inl h2⟩
  · exact ⟨h1, .inr ⟨g, cap, cur, hv, hg, (hs g (by rw [hv]; rfl)).trans hh, hn, hcap, hsz, htake⟩⟩
theorem RowD.own {w : World} {base : Nat} {v : Value} {ds : List DgR} (h : RowD w base v ds) : ∀ g, v.ownBlock = some g → base ≤ g ∧ g < w.heap.size ∧ ∃ cs, Own w g cs 53 := by
  obtain ⟨h1, ⟨rfl, _⟩ | ⟨g, cap, cur, rfl, hg, hh, hn, hcap, hsz, htake⟩⟩ := h
  · intro r e; cases e
  · intro r e
    cases e; exact ⟨hg, lt_of_block hh, _, hh⟩
theorem RowD.alloc {w : World} {base : Nat} {v : Value} {ds : List DgR} (h : RowD w base v ds) (o : Obj) : RowD (w.alloc o) base v ds :=
  h.kept (fun g e => Below.heap_alloc w o g (h.own g e).2.1)
theorem RowD.below {w w' : World} {base B : Nat} {v : Value} {ds : List DgR} (h : RowD w base v ds) (hb : Below B w w') (hB : w.heap.size ≤ B) : RowD w' base v ds :=
  h.kept (fun g e => hb.block g (Nat.lt_of_lt_of_le (h.own g e).2.1 hB))
theorem RowD.base {w : World} {base base' : Nat} {v : Value} {ds : List DgR} (h : RowD w base v ds) (hb : base' ≤ base) : RowD w base' v ds := by
  obtain ⟨h1, h2 | ⟨g, cap, cur, hv, hg, hh⟩⟩ := h
  · exact ⟨h1, .inl h2⟩
  · exact ⟨h1, .inr ⟨g, cap, cur, hv, Nat.le_trans hb hg, hh⟩⟩
theorem RowD.nil (w : World) (base : Nat) : RowD w base (.slice none 0 0) [] := ⟨rfl, .inl ⟨rfl, rfl⟩⟩
/-- What such a slice is. -/
theorem RowD.shape {w : World} {base : Nat} {v : Value} {ds : List DgR} (h : RowD w base v ds) (h16 : LD16 ds) :
    (v = .slice none 0 0 ∧ ds = []) ∨ ∃ g cap, v = .slice (some ⟨g, 0, none⟩) ds.length cap ∧ base ≤ g ∧ g < w.heap.size ∧ ∀ k, k < ds.length → ∀ j u, (dcells (ds.getD k (0, zeros)).1 (ds.getD k (0, zeros)).2).toList[j]? = some u → w.cell? ((⟨g, 0, none⟩ : Addr).add (k * 17) |>.add j) = some u := by
  obtain ⟨h1, ⟨rfl, h0⟩ | ⟨g, cap, cur, rfl, hg, hh, hn, hcap, hsz, htake⟩⟩ := h
  · exact .inl ⟨rfl, List.length_eq_zero_iff.1 h0⟩
  · have hh' : Own w g cur 53 := hh
    refine .inr ⟨g, cap, rfl, hg, hh'.lt, fun k hk j u hu => ?_⟩
    have hgd : ds.getD k (0, zeros) = ds[k] := by rw [List.getD_eq_getElem?_getD, List.getElem?_eq_getElem hk]; rfl
    rw [hgd] at hu
    have hj : j < 17 := by
      have := (List.getElem?_eq_some_iff.1 hu).1
      rw [dl17 (h16 _ (List.getElem_mem hk))] at this; exact this
    rw [Addr.add_mid, Addr.add_mid, Nat.zero_add, hh'.cell]
    have e : (drl ds)[k * 17 + j]? = some u := by rw [Nat.mul_comm, drl_get ds h16 k hk j hj]; exact hu
    have hlt : k * 17 + j < ds.length * 17 := by omega
    have e2 : (cur.toList.take (ds.length * 17))[k * 17 + j]? = (drl ds)[k * 17 + j]? := by rw [htake]
    rw [List.getElem?_take_of_lt hlt, e] at e2
    simpa using e2
theorem infoD : (Try.prog.info? 53).map (fun i => (i.zero, i.size, i.bytes)) = some (some (.agg zcells), 17, 24) := by kernel_rfl
theorem mksD (n : Int) (ms : List Int) (h : ms.length = 16) (w : World) : (Instr.buildSlice 97 1 #[(0, .agg (dcells n ms))]).run Try.prog w = .ok (.slice (some ⟨w.heap.size, 0, none⟩) 1 1) (w.alloc (.cells (dcells n ms) 53)) := by
  obtain ⟨a0, a1, a2, a3, a4, a5, a6, a7, a8, a9, b0, b1, b2, b3, b4, b5, rfl⟩ := list16 ms h
  kernel_rfl
/-- A slice of one is laid, its run known. -/
theorem wpList_mksl {P : Program} {ops : Array Oper} {rest : List Oper} {o : Oper} {a : Act} {w w' : World} {Q : Exit → Act → World → Prop} (hgd : o.guard = none) (t : TypeId) (x : Operand) (ho : o.op = .buildSlice t 1 #[(0, x)])
    (v u : Value) (hx : a.eval x = v) (hr : (Instr.buildSlice t 1 #[(0, v)]).run P w = .ok u w') (h : wpList P ops Q rest (a.put o.dst u) w') : wpList P ops Q (o :: rest) a w := by
  refine wpList_plain hgd fun _ hK => ?_
  unfold Oper.wp execOp
  simp only [ho, List.map_toArray, List.map_cons, List.map_nil, hx, Sem.run_bind, hr, Result.andThen_ok, Sem.run_pure]
  exact hK _ _ h
theorem wpList_append_rowD {ops : Array Oper} {rest : List Oper} {o : Oper} {a : Act} {w : World} {Q : Exit → Act → World → Prop} (hgd : o.guard = none) (s x : Operand)
    (ho : o.op = .call { callee := .builtin .append, args := #[s, x], argTypes := #[97, 97] })
    (base : Nat) (v : Value) (xs : List DgR) (n : Int) (ms : List Int) (h16 : ms.length = 16) (hs : a.eval s = v) (hi : RowD w base v xs) (g : Nat) (c : Nat)
    (hx : a.eval x = .slice (some ⟨g, 0, none⟩) 1 c) (hy : Own w g (dcells n ms) 53) (hl : xs.length < 2097152) (hbase : base ≤ w.heap.size)
    (h : ∀ v' w', RowD w' base v' (xs ++ [(n, ms)]) → w.grownBy w' v.ownBlock → wpList Try.prog ops Q rest (a.put o.dst v') w') : wpList Try.prog ops Q (o :: rest) a w := by
  obtain ⟨i0, hi0, hz0, hz1, hz2⟩ := info_parts infoD
  refine wpList_append_own_at w hgd s x 97 ho base 53 i0 _ 17 24 Try.underlying97 hi0 hz0 hz1 hz2 (by rfl) (by decide) _ _ _ hs hi ⟨g, 0, none⟩ 1 c (drl [(n, ms)]) hx (by simp [drl, dcells, h16]) (fun j u hu => ?_) (one_drl _) (by unfold maxLen; omega) (by omega) hbase ?_
  · rw [Addr.add_mid, Nat.zero_add, hy.cell]
    simpa [drl] using hu
  · intro v' w' hown hgr hn hat
    rw [← drl_app] at hown
    refine h v' w' ?_ hgr
    unfold RowD
    rw [List.length_append]; exact hown
/-- A byte is appended where there is room. -/
theorem run_append_room (w : World) (ty : TypeId) (base g cap : Nat) (xs : List Int) (y : Int) (hi : Bys w base g cap xs) (ad : Addr) (c : Nat)
    (hy : w.cell? ad = some (.int .u8 y)) (hroom : xs.length + 1 ≤ cap) :
    ∃ w', (Builtin.append_ #[106, 106] ty #[bval g cap xs, .slice (some ad) 1 c]).run Try.prog w = .ok (bval g cap (xs ++ [y])) w' ∧ Bys w' base g cap (xs ++ [y]) ∧ w.grownBy w' (some g) := by
  obtain ⟨i0, hi0, hz0, hz1, hz2⟩ := info_parts info8
  obtain ⟨h1, h2, h3, cur, ho, hs, ht⟩ := hi
  have hnews : ∀ j u, ([Value.int .u8 y] : List Value)[j]? = some u → w.cell? (ad.add j) = some u := by
    intro j u hj
    match j, hj with
    | 0, hj =>
      simp at hj; subst hj
      have e : ad.add 0 = ad := by unfold Addr.add; split <;> simp_all
      rw [e]; exact hy
    | j + 1, hj => simp at hj
  have hu := Try.underlying106
  have hf := run_firstCells_some (P := Try.prog) w i0.size 1 ad 1 c [.int .u8 y] (by rw [hz1]; rfl) hnews
  rw [hz1] at hf
  have hcell : w.cell? ⟨g, xs.length, none⟩ = some (cur[xs.length]'(by omega)) := by rw [ho.cell, Array.getElem?_eq_getElem (by omega)]
  have hadd : (⟨g, xs.length, none⟩ : Addr).add 0 = ⟨g, xs.length, none⟩ := by unfold Addr.add; split <;> simp_all
  have hst : (storeCells ⟨g, xs.length, none⟩ [Value.int .u8 y] 0).run Try.prog w = .ok () (w.setCell ⟨g, xs.length, none⟩ (.int .u8 y)) := by
    have : (store ((⟨g, xs.length, none⟩ : Addr).add 0) (Value.int .u8 y)).run Try.prog w = .ok () (w.setCell ⟨g, xs.length, none⟩ (.int .u8 y)) := by
      rw [hadd, run_store Try.prog w _ (Value.int .u8 y) _ rfl, hcell]
      simp [ho.free]
    simp only [storeCells, Sem.run_bind, this, Result.andThen_ok, Sem.run_pure]
  have hr : (Builtin.append_ #[106, 106] ty #[bval g cap xs, .slice (some ad) 1 c]).run Try.prog w =
      .ok (.slice (some ⟨g, 0, none⟩) (xs.length + 1) cap) (w.setCell ⟨g, xs.length, none⟩ (.int .u8 y)) := by
    simp [bval, Builtin.append_, run_underlying hu, sizeOf, typeInfo, hi0, Builtin.lenOf, hroom, hf, Addr.add_lit, hz1, hst]
  refine ⟨w.setCell ⟨g, xs.length, none⟩ (.int .u8 y), by rw [hr]; simp [bval], ⟨h1, by simpa using hroom, h3, _, ho.set xs.length (.int .u8 y), by simpa using hs, ?_⟩, ⟨rfl, rfl, rfl, by simp [World.setCell], fun k _ hk => Below.heap_setCell _ _ _ _ (fun e => hk (by simp [e]))⟩⟩
  rw [Array.toList_setIfInBounds]
  apply List.ext_getElem?
  intro i
  have e : ∀ i, i < xs.length → cur.toList[i]? = (xs.map (Value.int .u8))[i]? := fun i hi => by
    have : (cur.toList.take xs.length)[i]? = (xs.map (Value.int .u8))[i]? := by rw [ht]
    rwa [List.getElem?_take_of_lt hi] at this
  by_cases c1 : i < xs.length + 1
  · rw [List.getElem?_take_of_lt (by simpa using c1), List.getElem?_set]
    by_cases c2 : xs.length = i
    · subst c2
      rw [if_pos rfl, if_pos (by simp; omega)]
      simp
    · rw [if_neg c2, e i (by omega), List.map_append, List.getElem?_append_left (by simp; omega)]
  · rw [List.getElem?_eq_none (by simp; omega), List.getElem?_eq_none (by simp; omega)]
theorem wpList_append_room {ops : Array Oper} {rest : List Oper} {o : Oper} {a : Act} {w : World} {Q : Exit → Act → World → Prop} (hgd : o.guard = none) (s x : Operand)
    (ho : o.op = .call { callee := .builtin .append, args := #[s, x], argTypes := #[106, 106] })
    (base g cap : Nat) (xs : List Int) (y : Int) (hs : a.eval s = bval g cap xs) (hi : Bys w base g cap xs) (ad : Addr) (c : Nat)
    (hx : a.eval x = .slice (some ad) 1 c) (hy : w.cell? ad = some (.int .u8 y)) (hroom : xs.length + 1 ≤ cap)
    (h : ∀ w', Bys w' base g cap (xs ++ [y]) → w.grownBy w' (some g) → wpList Try.prog ops Q rest (a.put o.dst (bval g cap (xs ++ [y]))) w') : wpList Try.prog ops Q (o :: rest) a w := by
  refine wpList_plain hgd fun K hK => ?_
  obtain ⟨w', hr, hB, hG⟩ := run_append_room w o.type base g cap xs y hi ad c hy hroom
  unfold Oper.wp execOp
  simp only [ho, resolve, invoke, builtin, Sem.run_bind, Sem.run_pure, Result.andThen_ok, List.map_toArray, List.map_cons, List.map_nil, hs, hx, hr]
  exact hK _ _ (h w' hB hG)
end Go.Proofs.Ytdmgmhjclagnpaa
