/- Slices of diagrams with blobs that the call has made, or nil: rows of thirty-three cells. -/
import Derived.Test.YtpjlienelkflhaaBlc
import Derived.Test.YtpjlienelkflhaaRwd
namespace Go.Proofs.Ytpjlienelkflhaa
open Go.RowKit Go.Lib
set_option linter.unusedVariables false
set_option linter.unusedSimpArgs false
theorem bl33 {n : Int} {ms : List Int} {bs : List Bool} (h : ms.length = 16) (h' : bs.length = 16) : (bcl n ms bs).toList.length = 33 := by
  rw [Array.length_toList]; exact b33 n ms bs h h'
def zBl : Int × List Int × List Bool := (0, zeros, zbs)
abbrev BlR := Int × List Int × List Bool
def brl (ds : List BlR) : List Value := ds.flatMap (fun d => (bcl d.1 d.2.1 d.2.2).toList)
def LB16 (ds : List BlR) : Prop := ∀ d ∈ ds, d.2.1.length = 16 ∧ d.2.2.length = 16
theorem brl_app (a b : List BlR) : brl (a ++ b) = brl a ++ brl b := by simp [brl]
theorem brl_len (ds : List BlR) (h : LB16 ds) : (brl ds).length = 33 * ds.length := by
  induction ds with
  | nil => rfl
  | cons d ds ih =>
    have := ih (fun x hx => h x (by simp [hx]))
    show ((bcl d.1 d.2.1 d.2.2).toList ++ brl ds).length = _
    rw [List.length_append, bl33 (h d (by simp)).1 (h d (by simp)).2, this]; simp; omega
theorem brl_get (ds : List BlR) (h : LB16 ds) (i : Nat) (hi : i < ds.length) (j : Nat) (hj : j < 33) : (brl ds)[33 * i + j]? = ((bcl (ds[i]).1 (ds[i]).2.1 (ds[i]).2.2).toList)[j]? := by
  induction ds generalizing i with
  | nil => simp at hi
  | cons d ds ih =>
    have h0 := bl33 (n := d.1) (h d (by simp)).1 (h d (by simp)).2
    show ((bcl d.1 d.2.1 d.2.2).toList ++ brl ds)[33 * i + j]? = _
    cases i with
    | zero => rw [List.getElem?_append_left (by omega)]; simp
    | succ i =>
      rw [List.getElem?_append_right (by omega), h0, show 33 * (i + 1) + j - 33 = 33 * i + j by omega]
      simpa using ih (fun x hx => h x (by simp [hx])) i (by simpa using hi)
theorem one_brl (ds : List BlR) : ∀ u ∈ brl ds, u.oneCell' = true := by
  intro u hu
  obtain ⟨d, _, hd⟩ := List.mem_flatMap.1 hu
  have := bcl_one d.1 d.2.1 d.2.2
  rw [← Array.all_toList, List.all_eq_true] at this
  exact this u hd
/-- A slice of diagrams, as the laws on append see it. -/
def RowL (w : World) (base : Nat) (v : Value) (ds : List BlR) : Prop := w.ownsRow base 64 33 v ds.length (brl ds)
theorem RowL.kept {w w' : World} {base : Nat} {v : Value} {ds : List BlR} (h : RowL w base v ds) (hs : ∀ g, v.ownBlock = some g → w'.heap[g]? = w.heap[g]?) : RowL w' base v ds := by
  obtain ⟨h1, h2 | ⟨g, cap, cur, hv, hg, hh, hn, hcap, hsz, htake⟩⟩ := h
  · exact ⟨h1, .inl h2⟩
  · exact ⟨h1, .inr ⟨g, cap, cur, hv, hg, (hs g (by rw [hv]; rfl)).trans hh, hn, hcap, hsz, htake⟩⟩
theorem RowL.own {w : World} {base : Nat} {v : Value} {ds : List BlR} (h : RowL w base v ds) : ∀ g, v.ownBlock = some g → base ≤ g ∧ g < w.heap.size ∧ ∃ cs, Own w g cs 64 := by
  obtain ⟨h1, ⟨rfl, _⟩ | ⟨g, cap, cur, rfl, hg, hh, hn, hcap, hsz, htake⟩⟩ := h
  · intro r e; cases e
  · intro r e
    cases e; exact ⟨hg, lt_of_block hh, _, hh⟩
theorem RowL.alloc {w : World} {base : Nat} {v : Value} {ds : List BlR} (h : RowL w base v ds) (o : Obj) : RowL (w.alloc o) base v ds :=
  h.kept (fun g e => Below.heap_alloc w o g (h.own g e).2.1)
theorem RowL.below {w w' : World} {base B : Nat} {v : Value} {ds : List BlR} (h : RowL w base v ds) (hb : Below B w w') (hB : w.heap.size ≤ B) : RowL w' base v ds :=
  h.kept (fun g e => hb.block g (Nat.lt_of_lt_of_le (h.own g e).2.1 hB))
theorem RowL.base {w : World} {base base' : Nat} {v : Value} {ds : List BlR} (h : RowL w base v ds) (hb : base' ≤ base) : RowL w base' v ds := by
  obtain ⟨h1, h2 | ⟨g, cap, cur, hv, hg, hh⟩⟩ := h
  · exact ⟨h1, .inl h2⟩
  · exact ⟨h1, .inr ⟨g, cap, cur, hv, Nat.le_trans hb hg, hh⟩⟩
theorem RowL.nil (w : World) (base : Nat) : RowL w base (.slice none 0 0) [] := ⟨rfl, .inl ⟨rfl, rfl⟩⟩
/-- What such a slice is. -/
theorem RowL.shape {w : World} {base : Nat} {v : Value} {ds : List BlR} (h : RowL w base v ds) (h16 : LB16 ds) :
    (v = .slice none 0 0 ∧ ds = []) ∨ ∃ g cap, v = .slice (some ⟨g, 0, none⟩) ds.length cap ∧ base ≤ g ∧ g < w.heap.size ∧ ∀ k, k < ds.length → ∀ j u, (bcl (ds.getD k zBl).1 (ds.getD k zBl).2.1 (ds.getD k zBl).2.2).toList[j]? = some u → w.cell? ((⟨g, 0, none⟩ : Addr).add (k * 33) |>.add j) = some u := by
  obtain ⟨h1, ⟨rfl, h0⟩ | ⟨g, cap, cur, rfl, hg, hh, hn, hcap, hsz, htake⟩⟩ := h
  · exact .inl ⟨rfl, List.length_eq_zero_iff.1 h0⟩
  · have hh' : Own w g cur 64 := hh
    refine .inr ⟨g, cap, rfl, hg, hh'.lt, fun k hk j u hu => ?_⟩
    have hgd : ds.getD k zBl = ds[k] := by rw [List.getD_eq_getElem?_getD, List.getElem?_eq_getElem hk]; rfl
    rw [hgd] at hu
    have hj : j < 33 := by
      have := (List.getElem?_eq_some_iff.1 hu).1
      rw [bl33 (h16 _ (List.getElem_mem hk)).1 (h16 _ (List.getElem_mem hk)).2] at this; exact this
    rw [Addr.add_mid, Addr.add_mid, Nat.zero_add, hh'.cell]
    have e : (brl ds)[k * 33 + j]? = some u := by rw [Nat.mul_comm, brl_get ds h16 k hk j hj]; exact hu
    have hlt : k * 33 + j < ds.length * 33 := by omega
    have e2 : (cur.toList.take (ds.length * 33))[k * 33 + j]? = (brl ds)[k * 33 + j]? := by rw [htake]
    rw [List.getElem?_take_of_lt hlt, e] at e2
    simpa using e2
theorem infoL : (Try.prog.info? 64).map (fun i => (i.zero, i.size, i.bytes)) = some (some (.agg zbl), 33, 40) := by kernel_rfl
theorem list16b (l : List Bool) (h : l.length = 16) : ∃ a0 a1 a2 a3 a4 a5 a6 a7 a8 a9 b0 b1 b2 b3 b4 b5, l = [a0, a1, a2, a3, a4, a5, a6, a7, a8, a9, b0, b1, b2, b3, b4, b5] := by
  match l, h with
  | [a0, a1, a2, a3, a4, a5, a6, a7, a8, a9, b0, b1, b2, b3, b4, b5], _ => exact ⟨_, _, _, _, _, _, _, _, _, _, _, _, _, _, _, _, rfl⟩
theorem mksL (n : Int) (ms : List Int) (bs : List Bool) (h : ms.length = 16) (h' : bs.length = 16) (w : World) : (Instr.buildSlice 41 1 #[(0, .agg (bcl n ms bs))]).run Try.prog w = .ok (.slice (some ⟨w.heap.size, 0, none⟩) 1 1) (w.alloc (.cells (bcl n ms bs) 64)) := by
  obtain ⟨a0, a1, a2, a3, a4, a5, a6, a7, a8, a9, b0, b1, b2, b3, b4, b5, rfl⟩ := list16 ms h
  obtain ⟨c0, c1, c2, c3, c4, c5, c6, c7, c8, c9, d0, d1, d2, d3, d4, d5, rfl⟩ := list16b bs h'
  kernel_rfl
theorem wpList_append_rowL {ops : Array Oper} {rest : List Oper} {o : Oper} {a : Act} {w : World} {Q : Exit → Act → World → Prop} (hgd : o.guard = none) (s x : Operand)
    (ho : o.op = .call { callee := .builtin .append, args := #[s, x], argTypes := #[41, 41] })
    (base : Nat) (v : Value) (xs : List BlR) (n : Int) (ms : List Int) (bs : List Bool) (h16 : ms.length = 16) (hb16 : bs.length = 16) (hs : a.eval s = v) (hi : RowL w base v xs) (g : Nat) (c : Nat)
    (hx : a.eval x = .slice (some ⟨g, 0, none⟩) 1 c) (hy : Own w g (bcl n ms bs) 64) (hl : xs.length < 2097152) (hbase : base ≤ w.heap.size)
    (h : ∀ v' w', RowL w' base v' (xs ++ [(n, ms, bs)]) → w.grownBy w' v.ownBlock → (v'.ownBlock = v.ownBlock ∨ v'.ownBlock = some w.heap.size) → wpList Try.prog ops Q rest (a.put o.dst v') w') : wpList Try.prog ops Q (o :: rest) a w := by
  obtain ⟨i0, hi0, hz0, hz1, hz2⟩ := info_parts infoL
  refine wpList_append_own_at w hgd s x 41 ho base 64 i0 _ 33 40 Try.underlying41 hi0 hz0 hz1 hz2 (by rfl) (by decide) _ _ _ hs hi ⟨g, 0, none⟩ 1 c (brl [(n, ms, bs)]) hx (by simp [brl, bcl, dcells, h16, hb16]) (fun j u hu => ?_) (one_brl _) (by unfold maxLen; omega) (by omega) hbase ?_
  · rw [Addr.add_mid, Nat.zero_add, hy.cell]
    simpa [brl] using hu
  · intro v' w' hown hgr hn hat
    rw [← brl_app] at hown
    refine h v' w' ?_ hgr hat
    unfold RowL
    rw [List.length_append]; exact hown
/-- A whole diagram is read out of such a slice. -/
theorem RowL.at {w : World} {base : Nat} {v : Value} {ds : List BlR} (h : RowL w base v ds) (h16 : LB16 ds) (h1 : 0 < ds.length) :
    ∃ g cap, v = .slice (some ⟨g, 0, none⟩) ds.length cap ∧ base ≤ g ∧ g < w.heap.size := by
  rcases h.shape h16 with ⟨_, e⟩ | ⟨g, cap, e, hb, hl, _⟩
  · rw [e] at h1; simp at h1
  · exact ⟨g, cap, e, hb, hl⟩
theorem RowL.read {w : World} {base g cap : Nat} {ds : List BlR} (h : RowL w base (.slice (some ⟨g, 0, none⟩) ds.length cap) ds) (h16 : LB16 ds) (k : Nat) (hk : k < ds.length) :
    ∀ j u, (bcl (ds.getD k zBl).1 (ds.getD k zBl).2.1 (ds.getD k zBl).2.2).toList[j]? = some u → w.cell? ((⟨g, k * 33, none⟩ : Addr).add j) = some u := by
  rcases h.shape h16 with ⟨e, _⟩ | ⟨g', cap', e, hb, hl, hc⟩
  · cases e
  · cases e
    intro j u hu
    have := hc k hk j u hu
    rwa [Addr.add_mid, Nat.zero_add] at this
theorem RowL.grown {w w' : World} {base g : Nat} {v : Value} {ds : List BlR} (h : RowL w base v ds) (hg : w.grownBy w' (some g)) (hne : ∀ k, v.ownBlock = some k → k ≠ g) : RowL w' base v ds :=
  h.kept (fun k e => hg.block k (h.own k e).2.1 (fun he => hne k e (by simpa using he)))
end Go.Proofs.Ytpjlienelkflhaa
