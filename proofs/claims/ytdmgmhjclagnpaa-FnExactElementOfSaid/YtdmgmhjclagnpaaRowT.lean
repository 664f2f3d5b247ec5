/- Slices of terms that the call has made: read, cut, appended to. -/
import Derived.Test.YtdmgmhjclagnpaaElemE
import Derived.Test.YtdmgmhjclagnpaaPutM
import Derived.Maps.AppendAt
namespace Go.Proofs.Ytdmgmhjclagnpaa
open Go.RowKit
set_option linter.unusedVariables false
def L16 (ts : List Tm) : Prop := ∀ t ∈ ts, t.2.1.length = 16
/-- Block g, one of the call's own, holds the terms, and has room behind them. -/
def MnT (w : World) (B g : Nat) (ts : List Tm) : Prop := B ≤ g ∧ ∃ sp : List Value, Own w g (tsl ts ++ sp).toArray 66
theorem MnT.lt {w : World} {B g : Nat} {ts : List Tm} (h : MnT w B g ts) : g < w.heap.size := by obtain ⟨_, sp, h⟩ := h; exact h.lt
theorem MnT.below {w w' : World} {B g D : Nat} {ts : List Tm} (h : MnT w B g ts) (hb : Below D w w') (hg : g < D) : MnT w' B g ts := by
  obtain ⟨h1, sp, h2⟩ := h
  exact ⟨h1, sp, h2.below hb hg⟩
theorem MnT.alloc {w : World} {B g : Nat} {ts : List Tm} (h : MnT w B g ts) (o : Obj) : MnT (w.alloc o) B g ts := by
  obtain ⟨h1, sp, h2⟩ := h
  exact ⟨h1, sp, h2.alloc o⟩
theorem MnT.weak {w : World} {B B' g : Nat} {ts : List Tm} (h : MnT w B g ts) (hb : B' ≤ B) : MnT w B' g ts := ⟨Nat.le_trans hb h.1, h.2⟩
theorem MnT.flat {w : World} {B g : Nat} {ts : List Tm} (h : MnT w B g ts) (i : Nat) (v : Value) (hv : (tsl ts)[i]? = some v) : w.cell? ⟨g, i, none⟩ = some v := by
  obtain ⟨_, sp, h2⟩ := h
  rw [h2.cell, List.getElem?_toArray, List.getElem?_append_left (List.getElem?_eq_some_iff.1 hv).1]
  exact hv
theorem tsl_drop (ts : List Tm) (h : L16 ts) (c : Nat) (hc : c ≤ ts.length) (i : Nat) : (tsl (ts.drop c))[i]? = (tsl ts)[c * 18 + i]? := by
  conv => rhs; rw [← List.take_append_drop c ts, tsl_app]
  have hl : (tsl (ts.take c)).length = 18 * c := by
    rw [tsl_len _ (fun t ht => h t (List.mem_of_mem_take ht)), List.length_take, Nat.min_eq_left hc]
  rw [List.getElem?_append_right (by omega), hl]
  congr 1; omega
theorem tsl_take (ts : List Tm) (c : Nat) (i : Nat) (v : Value) (hv : (tsl (ts.take c))[i]? = some v) : (tsl ts)[i]? = some v := by
  conv => lhs; rw [← List.take_append_drop c ts, tsl_app]
  rw [List.getElem?_append_left (List.getElem?_eq_some_iff.1 hv).1]
  exact hv
theorem tsl_term (ts : List Tm) (h : L16 ts) (k : Nat) (hk : k < ts.length) (j : Nat) (v : Value) (hv : (tcl (ts.getD k zT))[j]? = some v) : (tsl ts)[k * 18 + j]? = some v := by
  have hj : j < 18 := by
    have := (List.getElem?_eq_some_iff.1 hv).1
    have e : (ts.getD k zT).2.1.length = 16 := h _ (by rw [List.getD_eq_getElem?_getD, List.getElem?_eq_getElem hk]; exact List.getElem_mem hk)
    rw [tcl_len e] at this; exact this
  rw [Nat.mul_comm, tsl_get ts h k hk j hj, ← hv, List.getD_eq_getElem?_getD, List.getElem?_eq_getElem hk]
  rfl
theorem MnT.rd {w : World} {B g : Nat} {ts : List Tm} (h : MnT w B g ts) (h16 : L16 ts) : RdT w (some ⟨g, 0, none⟩) ts := by
  refine ⟨fun a e k hk j v hv => ?_, fun e => by cases e⟩
  cases e
  have := h.flat (k * 18 + j) v (tsl_term ts h16 k hk j v hv)
  rw [Addr.add_mid, Addr.add_mid, Nat.zero_add]
  exact this
/-- A slice of terms, as the laws on append see it. -/
def RowT (w : World) (base : Nat) (v : Value) (ts : List Tm) : Prop := w.ownsRow base 66 18 v ts.length (tsl ts)
theorem RowT.mn {w : World} {base : Nat} {v : Value} {ts : List Tm} (h : RowT w base v ts) (hv : v ≠ .slice none 0 0) : ∃ g cap, v = .slice (some ⟨g, 0, none⟩) ts.length cap ∧ ts.length ≤ cap ∧ MnT w base g ts := by
  obtain ⟨hl, ⟨h0, _⟩ | ⟨g, cap, cur, hv', hb, hh, hn, hc, hs, ht⟩⟩ := h
  · exact absurd h0 hv
  · refine ⟨g, cap, hv', hn, hb, cur.toList.drop (ts.length * 18), ?_⟩
    have : (tsl ts ++ cur.toList.drop (ts.length * 18)).toArray = cur := by
      rw [← ht, List.take_append_drop]
    rw [this]; exact hh
theorem RowT.blk {w : World} {base : Nat} {v : Value} {ts : List Tm} (h : RowT w base v ts) (k : Nat) (e : v.ownBlock = some k) : base ≤ k := by
  rcases h.2 with ⟨hv, _⟩ | ⟨g, cap, cur, hv, hb, _⟩
  · rw [hv] at e; cases e
  · rw [hv] at e; cases e; exact hb
theorem RowT.alloc {w : World} {base : Nat} {v : Value} {ts : List Tm} (h : RowT w base v ts) (o : Obj) : RowT (w.alloc o) base v ts :=
  World.ownsRow.kept h (World.grownBy_alloc w o none) (by cases v.ownBlock <;> simp)
theorem RowT.below {w w' : World} {base : Nat} {v : Value} {ts : List Tm} (h : RowT w base v ts) (hb : Below w.heap.size w w') : RowT w' base v ts := by
  obtain ⟨hl, ⟨h0, h1⟩ | ⟨g, cap, cur, hv', hbb, hh, hn, hc, hs, ht⟩⟩ := h
  · exact ⟨hl, .inl ⟨h0, h1⟩⟩
  · have hlt : g < w.heap.size := lt_of_block hh
    exact ⟨hl, .inr ⟨g, cap, cur, hv', hbb, by rw [hb.block g hlt]; exact hh, hn, hc, hs, ht⟩⟩
theorem RowT.new (w : World) (base : Nat) {n : Nat} (hn : w.heap.size = n) (hb : base ≤ n) : RowT (w.alloc (.cells #[] 66)) base (.slice (some ⟨n, 0, none⟩) 0 0) [] := by
  subst hn
  exact ⟨rfl, .inr ⟨w.heap.size, 0, #[], rfl, hb, Own.new _ _ _, Nat.le_refl _, by unfold maxLen; omega, rfl, rfl⟩⟩
theorem one_tsl (ts : List Tm) : ∀ u ∈ tsl ts, u.oneCell' = true := by
  intro u hu
  obtain ⟨t, _, ht⟩ := List.mem_flatMap.1 hu
  have := one_tcl t
  rw [List.all_toArray, List.all_eq_true] at this
  exact this u ht
theorem wpList_append_terms {ops : Array Oper} {rest : List Oper} {o : Oper} {a : Act} {w : World} {Q : Exit → Act → World → Prop} (hgd : o.guard = none) (s x : Operand)
    (ho : o.op = .call { callee := .builtin .append, args := #[s, x], argTypes := #[22, 22] })
    (base : Nat) (v : Value) (xs ys : List Tm) (h16 : L16 ys) (hs : a.eval s = v) (hi : RowT w base v xs) (hv : v ≠ .slice none 0 0) (ad : Addr) (c : Nat)
    (hx : a.eval x = .slice (some ad) ys.length c) (hy : ∀ i u, (tsl ys)[i]? = some u → w.cell? (ad.add i) = some u) (hl : xs.length + ys.length < 2097152) (hbase : base ≤ w.heap.size)
    (h : ∀ v' w', RowT w' base v' (xs ++ ys) → v' ≠ .slice none 0 0 → w.grownBy w' v.ownBlock → wpList Try.prog ops Q rest (a.put o.dst v') w') : wpList Try.prog ops Q (o :: rest) a w := by
  obtain ⟨i0, hi0, hz0, hz1, hz2⟩ := info_parts info52
  refine wpList_append_own_at w hgd s x 22 ho base 66 i0 _ 18 32 Try.underlying22 hi0 hz0 hz1 hz2 (by rfl) (by decide) _ _ _ hs hi ad ys.length c (tsl ys) hx (by rw [tsl_len ys h16, Nat.mul_comm]) hy (one_tsl ys) (by unfold maxLen; omega) (by omega) hbase ?_
  intro v' w' hown hgr hn hat
  rw [← List.length_append, ← tsl_app] at hown
  exact h v' w' hown (fun e => hv (hn.1 e).1) hgr
/-- A slice of one is laid, its run known. -/
theorem wpList_mkslice {P : Program} {ops : Array Oper} {rest : List Oper} {o : Oper} {a : Act} {w w' : World} {Q : Exit → Act → World → Prop} (hgd : o.guard = none) (t : TypeId) (x : Operand) (ho : o.op = .buildSlice t 1 #[(0, x)])
    (v u : Value) (hx : a.eval x = v) (hr : (Instr.buildSlice t 1 #[(0, v)]).run P w = .ok u w') (h : wpList P ops Q rest (a.put o.dst u) w') : wpList P ops Q (o :: rest) a w := by
  refine wpList_plain hgd fun _ hK => ?_
  unfold Oper.wp execOp
  simp only [ho, List.map_toArray, List.map_cons, List.map_nil, hx, Sem.run_bind, hr, Result.andThen_ok, Sem.run_pure]
  exact hK _ _ h
end Go.Proofs.Ytdmgmhjclagnpaa
