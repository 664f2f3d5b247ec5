/- Lists that are copied, and neighbours exchanged. -/
import Derived.Test.YtbibmncepjmgcaaKc
import Derived.Test.YtbibmncepjmgcaaIntsAt
namespace Go.Proofs.Ytbibmncepjmgcaa
open Go.RowKit
set_option linter.unusedVariables false
/-- The entries at i and i + 1 exchanged. -/
def sw (xs : List Int) (i : Nat) : List Int := (xs.set i (xs.getD (i + 1) 0)).set (i + 1) (xs.getD i 0)
theorem mkE : ∀ w : World, (Instr.buildSlice 34 0 #[]).run Try.prog w = .ok (.slice (some ⟨w.heap.size, 0, none⟩) 0 0) (w.alloc (.cells #[] 2)) := by
  intro w; kernel_rfl
/-- Numbers are appended: in the same block, or in a new one. -/
theorem wpList_append_ints_many {ops : Array Oper} {rest : List Oper} {o : Oper} {a : Act} {w : World} {Q : Exit → Act → World → Prop} (hgd : o.guard = none) (s x : Operand)
    (ho : o.op = .call { callee := .builtin .append, args := #[s, x], argTypes := #[34, 34] })
    (base g cap : Nat) (xs ys : List Int) (hs : a.eval s = ival g cap xs) (hi : Ints w base g cap xs) (ad : Addr) (c : Nat)
    (hx : a.eval x = .slice (some ad) ys.length c) (hy : ∀ j, j < ys.length → w.cell? (ad.add j) = some (.int .i64 (ys.getD j 0))) (hl : xs.length + ys.length < 2097152) (hbase : base ≤ w.heap.size)
    (h : ∀ g' cap' w', Ints w' base g' cap' (xs ++ ys) → w.grownBy w' (some g) → (g' = g ∨ g' = w.heap.size) → wpList Try.prog ops Q rest (a.put o.dst (ival g' cap' (xs ++ ys))) w') : wpList Try.prog ops Q (o :: rest) a w := by
  obtain ⟨i0, hi0, hz0, hz1, hz2⟩ := info_parts info64
  refine wpList_append_own_at w hgd s x 34 ho base 2 i0 (.int .i64 0) 1 8 Try.underlying34 hi0 hz0 hz1 hz2 rfl (by decide) _ _ _ hs hi.owns ad ys.length c (ys.map (Value.int .i64)) hx (by simp) ?_ (by simp [Value.oneCell']) (by unfold maxLen; omega) (by omega) hbase ?_
  · intro j u hj
    have hlt : j < ys.length := by have := (List.getElem?_eq_some_iff.1 hj).1; simpa using this
    rw [hy j hlt, ← hj]
    simp [hlt]
  · intro v' w' hown hgr hn hat
    rw [← List.length_append, ← List.map_append] at hown
    obtain ⟨g', cap', rfl, hI⟩ := Ints.of_owns hown (fun e => by simpa [ival] using hn.1 e)
    refine h g' cap' w' hI hgr ?_
    simpa [ival, Value.ownBlock] using hat
theorem Ints.put {w : World} {base g cap : Nat} {xs : List Int} (h : Ints w base g cap xs) (i : Nat) (y : Int) : Ints (w.setCell ⟨g, i, none⟩ (.int .i64 y)) base g cap (xs.set i y) := by
  obtain ⟨h1, h2, h3, cur, ho, hs, ht⟩ := h
  refine ⟨h1, by simpa using h2, h3, _, ho.set i _, by simpa using hs, ?_⟩
  rw [Array.toList_setIfInBounds, List.length_set, List.take_set, ht, List.map_set]
theorem Ints.free {w : World} {base g cap : Nat} {xs : List Int} (h : Ints w base g cap xs) (i : Nat) : w.frozen? ⟨g, i, none⟩ = false := by
  obtain ⟨h1, h2, h3, cur, ho, hs, ht⟩ := h
  exact ho.free i
theorem Ints.rd {w : World} {base g cap : Nat} {xs : List Int} (h : Ints w base g cap xs) : Rd w (some ⟨g, 0, none⟩) xs := by
  refine ⟨fun a e j hj => ?_, fun e => by cases e⟩
  cases e
  rw [Addr.add_mid, Nat.zero_add]
  exact h.cell j hj
theorem Ints.base {w : World} {base b2 g cap : Nat} {xs : List Int} (h : Ints w base g cap xs) (hb : b2 ≤ g) : Ints w b2 g cap xs := ⟨hb, h.2⟩
set_option maxRecDepth 100000 in
set_option maxHeartbeats 1000000 in
theorem no_nil (ad : Addr) (m c : Nat) : ∀ w : World, (binOp BinOp.eql 34 (.slice (some ad) m c) (.slice none 0 0)).run Try.prog w = .ok (.bool false) w := by
  intro w; kernel_rfl
set_option maxRecDepth 100000 in
set_option maxHeartbeats 1000000 in
theorem ownS_any (ad : Addr) (c : Nat) (xs : List Int) (hx : xs.length ≤ 1048576) (w : World) (hR : Rd w (some ad) xs) :
    Calls Try.prog 101 #[.slice (some ad) xs.length c] w fun e w' => (∃ g cap, e = .returned (ival g cap xs) ∧ Ints w' w.heap.size g cap xs) ∧ Below w.heap.size w w' := by
  have hmk := mkE
  have hR' := Lib.hid (fun o => (hR.below ((Below.refl _ w).alloc (Nat.le_refl _) o)).cell ad rfl)
  obtain ⟨m, hm⟩ : ∃ m, xs.length = m := ⟨_, rfl⟩
  have hM := Lib.hid hm
  rw [hm] at hx ⊢
  clear hR hm
  go_enter Try.func101, Try.ntmps101
  go_wp2_with (first
    | (refine wpList_append_ints_many rfl (.tmp 3) (.tmp 4) rfl w.heap.size w.heap.size 0 [] xs rfl (Ints.new _ _ _ _ (Nat.le_refl _) rfl (by decide) #[] rfl) ad c (by rw [hM.out]; rfl) (hR'.out _) (by rw [hM.out]; simp; omega) (by simp) ?_; rw [List.nil_append]; intro g cap w2 hI hG hat; have hB : Below w.heap.size w w2 := ((Below.refl _ w).alloc (Nat.le_refl _) _).grown hG (by simp) (fun k e => by simp at e; omega)))
  go_ret
  exact ⟨⟨g, cap, rfl, hI⟩, hB⟩
end Go.Proofs.Ytbibmncepjmgcaa
