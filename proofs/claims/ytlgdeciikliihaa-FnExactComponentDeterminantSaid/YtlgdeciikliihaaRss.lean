/- Slices of slices of numbers that the call itself made; rows of tables. -/
import Derived.Test.YtlgdeciikliihaaCwr
namespace Go.Proofs.Ytlgdeciikliihaa
open Go.RowKit
set_option linter.unusedVariables false
set_option linter.unusedSimpArgs false
/-- A slice of slices of the call's own, or nil. -/
def Rws (w : World) (base : Nat) (v : Value) (vs : List Value) : Prop := w.ownsRow base 28 1 v vs.length vs
theorem Rws.of_same {w w' : World} {base : Nat} {v : Value} {vs : List Value} (h : Rws w base v vs) (hs : ∀ j, base ≤ j → j < w.heap.size → w'.heap[j]? = w.heap[j]?) : Rws w' base v vs := by
  obtain ⟨h1, h2 | ⟨g, cap, cur, hv, hg, hh, hn, hcap, hsz, htake⟩⟩ := h
  · exact ⟨h1, .inl h2⟩
  · have hh' : Own w g cur 28 := hh
    exact ⟨h1, .inr ⟨g, cap, cur, hv, hg, (hs g hg hh'.lt).trans hh, hn, hcap, hsz, htake⟩⟩
theorem Rws.below {w w' : World} {base : Nat} {v : Value} {vs : List Value} (h : Rws w base v vs) (hb : Below w.heap.size w w') : Rws w' base v vs := h.of_same (fun j _ hj => hb.block j hj)
theorem Rws.base {w : World} {base base' : Nat} {v : Value} {vs : List Value} (h : Rws w base v vs) (hb : base' ≤ base) : Rws w base' v vs := by
  obtain ⟨h1, h2 | ⟨g, cap, cur, hv, hg, hh⟩⟩ := h
  · exact ⟨h1, .inl h2⟩
  · exact ⟨h1, .inr ⟨g, cap, cur, hv, Nat.le_trans hb hg, hh⟩⟩
theorem Rws.new (w : World) (base : Nat) (hb : base ≤ w.heap.size) : Rws (w.alloc (.cells #[] 28)) base (.slice (some ⟨w.heap.size, 0, none⟩) 0 0) [] :=
  ⟨rfl, .inr ⟨w.heap.size, 0, #[], rfl, hb, Own.new w _ _, Nat.le_refl _, by decide, rfl, rfl⟩⟩
theorem Rws.own_ty {w : World} {base : Nat} {v : Value} {vs : List Value} (h : Rws w base v vs) : ∀ r, v.ownBlock = some r → base ≤ r ∧ ∃ cs, Own w r cs 28 := by
  obtain ⟨h1, ⟨rfl, _⟩ | ⟨g, cap, cur, rfl, hg, hh, hn, hcap, hsz, htake⟩⟩ := h
  · intro r e; cases e
  · intro r e
    cases e; exact ⟨hg, _, hh⟩
/-- The whole of it, to be read. -/
theorem Rws.shape {w : World} {base : Nat} {v : Value} {vs : List Value} (h : Rws w base v vs) : (v = .slice none 0 0 ∧ vs = []) ∨ ∃ g cap, v = .slice (some ⟨g, 0, none⟩) vs.length cap ∧ base ≤ g ∧ g < w.heap.size ∧ ∀ j, j < vs.length → w.cell? ⟨g, j, none⟩ = vs[j]? := by
  obtain ⟨h1, ⟨rfl, h0⟩ | ⟨g, cap, cur, rfl, hg, hh, hn, hcap, hsz, htake⟩⟩ := h
  · exact .inl ⟨rfl, List.length_eq_zero_iff.1 h0⟩
  · have hh' : Own w g cur 28 := hh
    refine .inr ⟨g, cap, rfl, hg, hh'.lt, fun j hj => ?_⟩
    rw [hh'.cell]
    have ht : cur.toList.take vs.length = vs := by simpa using htake
    have e : (cur.toList.take vs.length)[j]? = vs[j]? := by rw [ht]
    rw [List.getElem?_take_of_lt hj] at e
    simpa using e
theorem infoR : (Try.prog.info? 28).map (fun i => (i.zero, i.size, i.bytes)) = some (some (.slice none 0 0), 1, 24) := by kernel_rfl
theorem wpList_append_rws {ops : Array Oper} {rest : List Oper} {o : Oper} {a : Act} {w : World} {Q : Exit → Act → World → Prop} (hgd : o.guard = none) (s x : Operand)
    (ho : o.op = .call { callee := .builtin .append, args := #[s, x], argTypes := #[49, 49] })
    (base : Nat) (v : Value) (vs : List Value) (p : Option Addr) (l k : Nat) (hs : a.eval s = v) (hi : Rws w base v vs) (ad : Addr) (c : Nat)
    (hx : a.eval x = .slice (some ad) 1 c) (hy : w.cell? ad = some (.slice p l k)) (hl : vs.length < 2097152) (hbase : base ≤ w.heap.size)
    (h : ∀ v' w', Rws w' base v' (vs ++ [.slice p l k]) → w.grownBy w' v.ownBlock → wpList Try.prog ops Q rest (a.put o.dst v') w') : wpList Try.prog ops Q (o :: rest) a w := by
  obtain ⟨i0, hi0, hz0, hz1, hz2⟩ := info_parts infoR
  refine wpList_append_own w hgd s x 49 ho base 28 i0 (.slice none 0 0) 1 24 Try.underlying49 hi0 hz0 hz1 hz2 rfl (by decide) _ _ _ hs hi ad 1 c [.slice p l k] hx rfl ?_ (by simp [Value.oneCell']) (by unfold maxLen; omega) (by omega) hbase ?_
  · intro j u hj
    match j, hj with
    | 0, hj =>
      simp at hj; subst hj
      have e : ad.add 0 = ad := by unfold Addr.add; split <;> simp_all
      rw [e]; exact hy
    | j + 1, hj => simp at hj
  · intro v' w' hown hgr hn
    refine h v' w' ?_ hgr
    unfold Rws
    rw [List.length_append]; exact hown
/-- The number of components of the systems i and j. -/
def tbN (m : Nat) (LL : List (List UInt8)) (i j : Nat) : Nat := comps (mf (sysO (LL.getD i []))) (mf (sysO (LL.getD j []))) (2 * m)
/-- The first numbers of a row. -/
def rwN (m : Nat) (LL : List (List UInt8)) (i : Nat) : Nat → List Int
  | 0 => []
  | k + 1 => rwN m LL i k ++ [(tbN m LL i k : Int)]
theorem rwN_len (m : Nat) (LL : List (List UInt8)) (i k : Nat) : (rwN m LL i k).length = k := by
  induction k with
  | zero => rfl
  | succ k ih => rw [rwN, List.length_append, ih]; rfl
theorem rwN_get (m : Nat) (LL : List (List UInt8)) (i k j : Nat) (h : j < k) : (rwN m LL i k).getD j 0 = (tbN m LL i j : Int) := by
  induction k with
  | zero => omega
  | succ k ih =>
    rw [rwN, List.getD_eq_getElem?_getD]
    by_cases e : j < k
    · rw [List.getElem?_append_left (by rw [rwN_len]; exact e), ← List.getD_eq_getElem?_getD, ih e]
    · have : j = k := by omega
      subst this
      rw [List.getElem?_append_right (by rw [rwN_len]; exact Nat.le_refl _), rwN_len, Nat.sub_self]; rfl
/-- The first k rows are there. -/
def RwT (w : World) (B m : Nat) (LL : List (List UInt8)) (n : Nat) (vs : List Value) (k : Nat) : Prop :=
  ∀ i, i < k → ∃ g cap, vs[i]? = some (.slice (some ⟨g, 0, none⟩) n cap) ∧ Ints w B g cap (rwN m LL i n)
theorem RwT.below {w w' : World} {B m n k : Nat} {LL : List (List UInt8)} {vs : List Value} (h : RwT w B m LL n vs k) (hb : Below w.heap.size w w') : RwT w' B m LL n vs k := fun i hi => by
  obtain ⟨g, cap, g1, g2⟩ := h i hi
  exact ⟨g, cap, g1, g2.below hb g2.lt⟩
theorem Ints.rebase {w : World} {B B' g cap : Nat} {xs : List Int} (h : Ints w B g cap xs) (hb : B' ≤ B) : Ints w B' g cap xs := ⟨Nat.le_trans hb h.1, h.2⟩
theorem RwT.base {w : World} {B B' m n k : Nat} {LL : List (List UInt8)} {vs : List Value} (h : RwT w B m LL n vs k) (hb : B' ≤ B) : RwT w B' m LL n vs k := fun i hi => by
  obtain ⟨g, cap, g1, g2⟩ := h i hi
  exact ⟨g, cap, g1, g2.rebase hb⟩
end Go.Proofs.Ytlgdeciikliihaa
