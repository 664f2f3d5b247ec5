/- Lists of bytes that are joined: slices.Grow from nothing, slices.Concat; append to a list that may be nil. -/
import Derived.Test.YtlgdeciikliihaaTextM
import Derived.Maps.AppendAt
import Derived.Lib.AppendZerosOnto
import Derived.IntWalk
namespace Go.Proofs.Ytlgdeciikliihaa
open Go.RowKit
set_option linter.unusedVariables false
/-- Bytes that can be read from an address on. -/
def RdA (w : World) (a : Addr) (xs : List Int) : Prop := ∀ j, j < xs.length → w.cell? (a.add j) = some (.int .u8 (xs.getD j 0))
theorem RdA.below {w w' : World} {a : Addr} {xs : List Int} (h : RdA w a xs) (hb : Below w.heap.size w w') : RdA w' a xs := by
  intro j hj
  have hc := h j hj
  have hlt : (a.add j).block < w.heap.size := by
    refine Decidable.byContradiction fun hn => ?_
    unfold World.cell? at hc
    rw [Array.getElem?_eq_none (by omega)] at hc
    simp at hc
  have : w'.cell? (a.add j) = w.cell? (a.add j) := by unfold World.cell?; rw [hb.block _ hlt]
  rw [this]; exact hc
/-- A list of numbers that the call has made, or nil. -/
def RowB (w : World) (base : Nat) (v : Value) (xs : List Int) : Prop := w.ownsRow base 5 1 v xs.length (xs.map (Value.int .u8))
theorem RowB.nil (w : World) (base : Nat) : RowB w base (.slice none 0 0) [] := World.ownsRow_nil _ _ _ _
theorem RowB.mn {w : World} {base : Nat} {v : Value} {xs : List Int} (h : RowB w base v xs) (hx : xs ≠ []) : ∃ g cap, v = bval g cap xs ∧ Bys w base g cap xs := by
  refine Bys.of_owns h ?_
  intro e
  rcases h.2 with ⟨_, h0⟩ | ⟨g, cap, cur, hv', _⟩
  · exact hx (List.eq_nil_of_length_eq_zero h0)
  · rw [e] at hv'; cases hv'
theorem RowB.blk {w : World} {base : Nat} {v : Value} {xs : List Int} (h : RowB w base v xs) (k : Nat) (e : v.ownBlock = some k) : base ≤ k := by
  rcases h.2 with ⟨hv, _⟩ | ⟨g, cap, cur, hv, hb, _⟩
  · rw [hv] at e; cases e
  · rw [hv] at e; cases e; exact hb
theorem RowB.alloc {w : World} {base : Nat} {v : Value} {xs : List Int} (h : RowB w base v xs) (o : Obj) : RowB (w.alloc o) base v xs :=
  World.ownsRow.kept h (World.grownBy_alloc w o none) (by cases v.ownBlock <;> simp)
theorem RowB.one (w : World) (base : Nat) (x : Int) {n : Nat} (hn : w.heap.size = n) (hb : base ≤ n) : RowB (w.alloc (.cells #[.int .u8 x] 5)) base (.slice (some ⟨n, 0, none⟩) 1 1) [x] := by
  subst hn
  exact ⟨by simp, .inr ⟨w.heap.size, 1, _, rfl, hb, Own.new w #[.int .u8 x] 5, Nat.le_refl _, by unfold maxLen; omega, rfl, by simp⟩⟩
theorem one_cellB (w : World) (x : Int) {n : Nat} (hn : w.heap.size = n) : ∀ j, j < [x].length → (w.alloc (.cells #[.int .u8 x] 5)).cell? ((⟨n, 0, none⟩ : Addr).add j) = some (.int .u8 ([x].getD j 0)) := by
  subst hn
  intro j hj
  obtain rfl : j = 0 := by simpa using hj
  exact (Own.new w #[.int .u8 x] 5).cell 0
theorem wpList_append_rowB {ops : Array Oper} {rest : List Oper} {o : Oper} {a : Act} {w : World} {Q : Exit → Act → World → Prop} (hgd : o.guard = none) (s x : Operand)
    (ho : o.op = .call { callee := .builtin .append, args := #[s, x], argTypes := #[86, 86] })
    (base : Nat) (v : Value) (xs ys : List Int) (hs : a.eval s = v) (hi : RowB w base v xs) (ad : Addr) (c : Nat)
    (hx : a.eval x = .slice (some ad) ys.length c) (hy : ∀ j, j < ys.length → w.cell? (ad.add j) = some (.int .u8 (ys.getD j 0))) (hl : xs.length + ys.length < 1000000) (hbase : base ≤ w.heap.size)
    (h : ∀ v' w', RowB w' base v' (xs ++ ys) → w.grownBy w' v.ownBlock → wpList Try.prog ops Q rest (a.put o.dst v') w') : wpList Try.prog ops Q (o :: rest) a w := by
  obtain ⟨i0, hi0, hz0, hz1, hz2⟩ := info_parts info8
  refine wpList_append_own_at w hgd s x 86 ho base 5 i0 (.int .u8 0) 1 1 Try.underlying86 hi0 hz0 hz1 hz2 rfl (by decide) _ _ _ hs hi ad ys.length c (ys.map (Value.int .u8)) hx (by simp) ?_ (by simp [Value.oneCell']) (by unfold maxLen; omega) (by omega) hbase ?_
  · intro j u hj
    have hlt : j < ys.length := by have := (List.getElem?_eq_some_iff.1 hj).1; simpa using this
    rw [hy j hlt, ← hj]
    simp [hlt]
  · intro v' w' hown hgr hn hat
    rw [← List.length_append, ← List.map_append] at hown
    exact h v' w' hown hgr
/-- Parts: where each lies, its room, its numbers. -/
abbrev PrtB := Addr × Nat × List Int
def prtVB (q : PrtB) : Value := .slice (some q.1) q.2.2.length q.2.1
def prtcB (ps : List PrtB) : Array Value := (ps.map prtVB).toArray
def catLB (ps : List PrtB) : List Int := (ps.map (·.2.2)).flatten
theorem catLB_step (ps : List PrtB) (k : Nat) (h : k < ps.length) : catLB (ps.take (k + 1)) = catLB (ps.take k) ++ (ps[k]).2.2 := by
  unfold catLB
  rw [List.take_succ_eq_append_getElem h, List.map_append, List.flatten_append]
  simp
theorem catLB_le (ps : List PrtB) (k : Nat) : (catLB (ps.take k)).length ≤ (catLB ps).length := by
  unfold catLB
  conv => rhs; rw [← List.take_append_drop k ps, List.map_append, List.flatten_append, List.length_append]
  exact Nat.le_add_right _ _
end Go.Proofs.Ytlgdeciikliihaa
