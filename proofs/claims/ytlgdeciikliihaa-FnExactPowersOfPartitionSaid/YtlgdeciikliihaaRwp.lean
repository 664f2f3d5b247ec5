/- Slices of partitions that the call has made, or nil: rows of nine cells. -/
import Derived.Test.YtlgdeciikliihaaPb
import Derived.Maps.AppendAt
namespace Go.Proofs.Ytlgdeciikliihaa
open Go.RowKit Go.Lib
set_option linter.unusedVariables false
set_option linter.unusedSimpArgs false
theorem dl9 {n : Int} {ms : List Int} (h : ms.length = 8) : (dcells n ms).toList.length = 9 := by simp [dcells, h]
abbrev PtR := Int × List Int
def qrl (ds : List PtR) : List Value := ds.flatMap (fun d => (dcells d.1 d.2).toList)
def LP8 (ds : List PtR) : Prop := ∀ d ∈ ds, d.2.length = 8
theorem qrl_app (a b : List PtR) : qrl (a ++ b) = qrl a ++ qrl b := by simp [qrl]
theorem qrl_len (ds : List PtR) (h : LP8 ds) : (qrl ds).length = 9 * ds.length := by
  induction ds with
  | nil => rfl
  | cons d ds ih =>
    have := ih (fun x hx => h x (by simp [hx]))
    show ((dcells d.1 d.2).toList ++ qrl ds).length = _
    rw [List.length_append, dl9 (h d (by simp)), this]; simp; omega
theorem qrl_get (ds : List PtR) (h : LP8 ds) (i : Nat) (hi : i < ds.length) (j : Nat) (hj : j < 9) : (qrl ds)[9 * i + j]? = ((dcells (ds[i]).1 (ds[i]).2).toList)[j]? := by
  induction ds generalizing i with
  | nil => simp at hi
  | cons d ds ih =>
    have h0 := dl9 (n := d.1) (h d (by simp))
    show ((dcells d.1 d.2).toList ++ qrl ds)[9 * i + j]? = _
    cases i with
    | zero => rw [List.getElem?_append_left (by omega)]; simp
    | succ i =>
      rw [List.getElem?_append_right (by omega), h0, show 9 * (i + 1) + j - 9 = 9 * i + j by omega]
      simpa using ih (fun x hx => h x (by simp [hx])) i (by simpa using hi)
theorem one_qrl (ds : List PtR) : ∀ u ∈ qrl ds, u.oneCell' = true := by
  intro u hu
  obtain ⟨d, _, hd⟩ := List.mem_flatMap.1 hu
  have := dcells_one d.1 d.2
  rw [← Array.all_toList, List.all_eq_true] at this
  exact this u hd
/-- A slice of diagrams, as the laws on append see it. -/
def RowQ (w : World) (base : Nat) (v : Value) (ds : List PtR) : Prop := w.ownsRow base 31 9 v ds.length (qrl ds)
theorem RowQ.kept {w w' : World} {base : Nat} {v : Value} {ds : List PtR} (h : RowQ w base v ds) (hs : ∀ g, v.ownBlock = some g → w'.heap[g]? = w.heap[g]?) : RowQ w' base v ds := by
  obtain ⟨h1, h2 | ⟨g, cap, cur, hv, hg, hh, hn, hcap, hsz, htake⟩⟩ := h
  · exact ⟨h1, .inl h2⟩
  · exact ⟨h1, .inr ⟨g, cap, cur, hv, hg, (hs g (by rw [hv]; rfl)).trans hh, hn, hcap, hsz, htake⟩⟩
theorem RowQ.own {w : World} {base : Nat} {v : Value} {ds : List PtR} (h : RowQ w base v ds) : ∀ g, v.ownBlock = some g → base ≤ g ∧ g < w.heap.size ∧ ∃ cs, Own w g cs 31 := by
  obtain ⟨h1, ⟨rfl, _⟩ | ⟨g, cap, cur, rfl, hg, hh, hn, hcap, hsz, htake⟩⟩ := h
  · intro r e; cases e
  · intro r e
    cases e; exact ⟨hg, lt_of_block hh, _, hh⟩
theorem RowQ.alloc {w : World} {base : Nat} {v : Value} {ds : List PtR} (h : RowQ w base v ds) (o : Obj) : RowQ (w.alloc o) base v ds :=
  h.kept (fun g e => Below.heap_alloc w o g (h.own g e).2.1)
theorem RowQ.below {w w' : World} {base B : Nat} {v : Value} {ds : List PtR} (h : RowQ w base v ds) (hb : Below B w w') (hB : w.heap.size ≤ B) : RowQ w' base v ds :=
  h.kept (fun g e => hb.block g (Nat.lt_of_lt_of_le (h.own g e).2.1 hB))
theorem RowQ.base {w : World} {base base' : Nat} {v : Value} {ds : List PtR} (h : RowQ w base v ds) (hb : base' ≤ base) : RowQ w base' v ds := by
  obtain ⟨h1, h2 | ⟨g, cap, cur, hv, hg, hh⟩⟩ := h
  · exact ⟨h1, .inl h2⟩
  · exact ⟨h1, .inr ⟨g, cap, cur, hv, Nat.le_trans hb hg, hh⟩⟩
theorem RowQ.nil (w : World) (base : Nat) : RowQ w base (.slice none 0 0) [] := ⟨rfl, .inl ⟨rfl, rfl⟩⟩
/-- What such a slice is. -/
theorem RowQ.shape {w : World} {base : Nat} {v : Value} {ds : List PtR} (h : RowQ w base v ds) (h16 : LP8 ds) :
    (v = .slice none 0 0 ∧ ds = []) ∨ ∃ g cap, v = .slice (some ⟨g, 0, none⟩) ds.length cap ∧ base ≤ g ∧ g < w.heap.size ∧ ∀ k, k < ds.length → ∀ j u, (dcells (ds.getD k (0, zer8)).1 (ds.getD k (0, zer8)).2).toList[j]? = some u → w.cell? ((⟨g, 0, none⟩ : Addr).add (k * 9) |>.add j) = some u := by
  obtain ⟨h1, ⟨rfl, h0⟩ | ⟨g, cap, cur, rfl, hg, hh, hn, hcap, hsz, htake⟩⟩ := h
  · exact .inl ⟨rfl, List.length_eq_zero_iff.1 h0⟩
  · have hh' : Own w g cur 31 := hh
    refine .inr ⟨g, cap, rfl, hg, hh'.lt, fun k hk j u hu => ?_⟩
    have hgd : ds.getD k (0, zer8) = ds[k] := by rw [List.getD_eq_getElem?_getD, List.getElem?_eq_getElem hk]; rfl
    rw [hgd] at hu
    have hj : j < 9 := by
      have := (List.getElem?_eq_some_iff.1 hu).1
      rw [dl9 (h16 _ (List.getElem_mem hk))] at this; exact this
    rw [Addr.add_mid, Addr.add_mid, Nat.zero_add, hh'.cell]
    have e : (qrl ds)[k * 9 + j]? = some u := by rw [Nat.mul_comm, qrl_get ds h16 k hk j hj]; exact hu
    have hlt : k * 9 + j < ds.length * 9 := by omega
    have e2 : (cur.toList.take (ds.length * 9))[k * 9 + j]? = (qrl ds)[k * 9 + j]? := by rw [htake]
    rw [List.getElem?_take_of_lt hlt, e] at e2
    simpa using e2
theorem infoQ : (Try.prog.info? 31).map (fun i => (i.zero, i.size, i.bytes)) = some (some (.agg zp), 9, 16) := by kernel_rfl
theorem mksQ (n : Int) (ms : List Int) (h : ms.length = 8) (w : World) : (Instr.buildSlice 55 1 #[(0, .agg (dcells n ms))]).run Try.prog w = .ok (.slice (some ⟨w.heap.size, 0, none⟩) 1 1) (w.alloc (.cells (dcells n ms) 31)) := by
  obtain ⟨a0, a1, a2, a3, a4, a5, a6, a7, rfl⟩ := list8 ms h
  kernel_rfl
/-- A slice of one is laid, its run known. -/
theorem wpList_mksl {P : Program} {ops : Array Oper} {rest : List Oper} {o : Oper} {a : Act} {w w' : World} {Q : Exit → Act → World → Prop} (hgd : o.guard = none) (t : TypeId) (x : Operand) (ho : o.op = .buildSlice t 1 #[(0, x)])
    (v u : Value) (hx : a.eval x = v) (hr : (Instr.buildSlice t 1 #[(0, v)]).run P w = .ok u w') (h : wpList P ops Q rest (a.put o.dst u) w') : wpList P ops Q (o :: rest) a w := by
  refine wpList_plain hgd fun _ hK => ?_
  unfold Oper.wp execOp
  simp only [ho, List.map_toArray, List.map_cons, List.map_nil, hx, Sem.run_bind, hr, Result.andThen_ok, Sem.run_pure]
  exact hK _ _ h
theorem wpList_append_rowQ {ops : Array Oper} {rest : List Oper} {o : Oper} {a : Act} {w : World} {Q : Exit → Act → World → Prop} (hgd : o.guard = none) (s x : Operand)
    (ho : o.op = .call { callee := .builtin .append, args := #[s, x], argTypes := #[55, 55] })
    (base : Nat) (v : Value) (xs : List PtR) (n : Int) (ms : List Int) (h16 : ms.length = 8) (hs : a.eval s = v) (hi : RowQ w base v xs) (g : Nat) (c : Nat)
    (hx : a.eval x = .slice (some ⟨g, 0, none⟩) 1 c) (hy : Own w g (dcells n ms) 31) (hl : xs.length < 33554432) (hbase : base ≤ w.heap.size)
    (h : ∀ v' w', RowQ w' base v' (xs ++ [(n, ms)]) → w.grownBy w' v.ownBlock → (v'.ownBlock = v.ownBlock ∨ v'.ownBlock = some w.heap.size) → wpList Try.prog ops Q rest (a.put o.dst v') w') : wpList Try.prog ops Q (o :: rest) a w := by
  obtain ⟨i0, hi0, hz0, hz1, hz2⟩ := info_parts infoQ
  refine wpList_append_own_at w hgd s x 55 ho base 31 i0 _ 9 16 Try.underlying55 hi0 hz0 hz1 hz2 (by rfl) (by decide) _ _ _ hs hi ⟨g, 0, none⟩ 1 c (qrl [(n, ms)]) hx (by simp [qrl, dcells, h16]) (fun j u hu => ?_) (one_qrl _) (by unfold maxLen; omega) (by omega) hbase ?_
  · rw [Addr.add_mid, Nat.zero_add, hy.cell]
    simpa [qrl] using hu
  · intro v' w' hown hgr hn hat
    rw [← qrl_app] at hown
    refine h v' w' ?_ hgr hat
    unfold RowQ
    rw [List.length_append]; exact hown
/-- A whole diagram is read out of such a slice. -/
theorem RowQ.at {w : World} {base : Nat} {v : Value} {ds : List PtR} (h : RowQ w base v ds) (h16 : LP8 ds) (h1 : 0 < ds.length) :
    ∃ g cap, v = .slice (some ⟨g, 0, none⟩) ds.length cap ∧ base ≤ g ∧ g < w.heap.size := by
  rcases h.shape h16 with ⟨_, e⟩ | ⟨g, cap, e, hb, hl, _⟩
  · rw [e] at h1; simp at h1
  · exact ⟨g, cap, e, hb, hl⟩
theorem RowQ.read {w : World} {base g cap : Nat} {ds : List PtR} (h : RowQ w base (.slice (some ⟨g, 0, none⟩) ds.length cap) ds) (h16 : LP8 ds) (k : Nat) (hk : k < ds.length) :
    ∀ j u, (dcells (ds.getD k (0, zer8)).1 (ds.getD k (0, zer8)).2).toList[j]? = some u → w.cell? ((⟨g, k * 9, none⟩ : Addr).add j) = some u := by
  rcases h.shape h16 with ⟨e, _⟩ | ⟨g', cap', e, hb, hl, hc⟩
  · cases e
  · cases e
    intro j u hu
    have := hc k hk j u hu
    rwa [Addr.add_mid, Nat.zero_add] at this
theorem RowQ.grown {w w' : World} {base g : Nat} {v : Value} {ds : List PtR} (h : RowQ w base v ds) (hg : w.grownBy w' (some g)) (hne : ∀ k, v.ownBlock = some k → k ≠ g) : RowQ w' base v ds :=
  h.kept (fun k e => hg.block k (h.own k e).2.1 (fun he => hne k e (by simpa using he)))
theorem mk0q : ∀ w : World, (Instr.buildSlice 55 0 #[]).run Try.prog w = .ok (.slice (some ⟨w.heap.size, 0, none⟩) 0 0) (w.alloc (.cells #[] 31)) := by
  intro w; kernel_rfl
theorem RowQ.new0 (w : World) (base n : Nat) (hb : base ≤ w.heap.size) (hw : w.heap.size = n) : RowQ (w.alloc (.cells #[] 31)) base (.slice (some ⟨n, 0, none⟩) 0 0) [] := by
  subst hw
  exact ⟨rfl, .inr ⟨_, 0, #[], rfl, hb, Own.new _ _ _, Nat.le_refl _, by unfold maxLen; omega, rfl, rfl⟩⟩
/-- What a call that appends leaves as it was. -/
def Fram (v : Value) (w : World) (v' : Value) (w' : World) : Prop :=
  w.heap.size ≤ w'.heap.size ∧ (∀ k cs t, Own w k cs t → v.ownBlock ≠ some k → Own w' k cs t) ∧ (v'.ownBlock = v.ownBlock ∨ ∃ g, w.heap.size ≤ g ∧ v'.ownBlock = some g)
theorem Fram.trans {v v1 v2 : Value} {w w1 w2 : World} (h : Fram v w v1 w1) (h' : Fram v1 w1 v2 w2) : Fram v w v2 w2 := by
  obtain ⟨a1, a2, a3⟩ := h
  obtain ⟨b1, b2, b3⟩ := h'
  refine ⟨Nat.le_trans a1 b1, fun k cs t ho hne => b2 k cs t (a2 k cs t ho hne) ?_, ?_⟩
  · rcases a3 with e | ⟨g, hg, e⟩
    · rw [e]; exact hne
    · rw [e]; intro he; injection he with he; have := ho.lt; omega
  · rcases b3 with e | ⟨g, hg, e⟩
    · rw [e]; exact a3
    · exact .inr ⟨g, Nat.le_trans a1 hg, e⟩
theorem Fram.alloc (v : Value) (w : World) (o : Obj) : Fram v w v (w.alloc o) := ⟨by simp, fun k cs t ho _ => ho.alloc o, .inl rfl⟩
theorem Fram.grown {v v' : Value} {w w' : World} (hg : w.grownBy w' v.ownBlock) (hs : w.heap.size ≤ w'.heap.size) (ha : v'.ownBlock = v.ownBlock ∨ v'.ownBlock = some w.heap.size) : Fram v w v' w' :=
  ⟨hs, fun k cs t ho hne => (hg.block k ho.lt (fun e => hne e.symm)).trans ho, ha.elim .inl (fun e => .inr ⟨_, Nat.le_refl _, e⟩)⟩
theorem RowQ.ne {w : World} {base g : Nat} {v : Value} {ds : List PtR} {cs : Array Value} {t : TypeId} (h : RowQ w base v ds) (ho : Own w g cs t) (ht : t ≠ 31) : v.ownBlock ≠ some g := by
  intro e
  obtain ⟨_, _, cu, hu⟩ := h.own g e
  have := (show w.heap[g]? = _ from hu).symm.trans ho
  simp at this
  exact ht this.2.symm
theorem RowQ.fresh {w : World} {base : Nat} {v : Value} {ds : List PtR} (h : RowQ w base v ds) {g : Nat} (hg : w.heap.size ≤ g) : v.ownBlock ≠ some g := by
  intro e
  have := (h.own g e).2.1
  omega
theorem Fram.ne {v v' : Value} {w w' : World} {g : Nat} (h : Fram v w v' w') (hg : g < w.heap.size) (hne : v.ownBlock ≠ some g) : v'.ownBlock ≠ some g := by
  obtain ⟨_, _, e | ⟨k, hk, e⟩⟩ := h
  · rw [e]; exact hne
  · rw [e]; intro he; injection he with he; omega
theorem RowQ.cell {w : World} {base : Nat} {v : Value} {ds : List PtR} (h : RowQ w base v ds) {a : Addr} (ha : v.ownBlock ≠ some a.block) (u : Value) : RowQ (w.setCell a u) base v ds :=
  h.kept (fun g e => by
    obtain ⟨_, _, cs, ho⟩ := h.own g e
    exact (ho.other (fun he => ha (by rw [e, he])) u).trans ho.symm)
theorem Fram.cell {v v' : Value} {w w' : World} (h : Fram v w v' w') {a : Addr} (ha : w.heap.size ≤ a.block) (u : Value) : Fram v w v' (w'.setCell a u) := by
  obtain ⟨h1, h2, h3⟩ := h
  refine ⟨Nat.le_trans h1 (by simp), fun k cs t ho hne => (h2 k cs t ho hne).other (fun e => ?_) u, h3⟩
  have := ho.lt
  omega
theorem Fram.below {v v' : Value} {w w' w2 : World} {B : Nat} (h : Fram v w v' w') (hb : Below B w' w2) (hB : w'.heap.size ≤ B) : Fram v w v' w2 := by
  obtain ⟨h1, h2, h3⟩ := h
  exact ⟨Nat.le_trans h1 hb.size, fun k cs t ho hne => (h2 k cs t ho hne).below hb (Nat.lt_of_lt_of_le (h2 k cs t ho hne).lt hB), h3⟩
end Go.Proofs.Ytlgdeciikliihaa
