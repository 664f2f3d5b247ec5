/- An append to a slice of int64 of a call's own: to which block it goes. -/
import Derived.Test.YtmcffhafonemeaaInts
import Derived.Maps.AppendAt
namespace Go.Proofs.Ytmcffhafonemeaa
open Go.RowKit
/-- One number is appended: in the same block, or in a new one. -/
theorem wpList_append_ints_at {ops : Array Oper} {rest : List Oper} {o : Oper} {a : Act} {w : World} {Q : Exit → Act → World → Prop} (hgd : o.guard = none) (s x : Operand)
    (ho : o.op = .call { callee := .builtin .append, args := #[s, x], argTypes := #[32, 32] })
    (base g cap : Nat) (xs : List Int) (y : Int) (hs : a.eval s = ival g cap xs) (hi : Ints w base g cap xs) (ad : Addr) (c : Nat)
    (hx : a.eval x = .slice (some ad) 1 c) (hy : w.cell? ad = some (.int .i64 y)) (hl : xs.length < 2097152) (hbase : base ≤ w.heap.size)
    (h : ∀ g' cap' w', Ints w' base g' cap' (xs ++ [y]) → w.grownBy w' (some g) → (g' = g ∨ g' = w.heap.size) → wpList Try.prog ops Q rest (a.put o.dst (ival g' cap' (xs ++ [y]))) w') : wpList Try.prog ops Q (o :: rest) a w := by
  obtain ⟨i0, hi0, hz0, hz1, hz2⟩ := info_parts info64
  refine wpList_append_own_at w hgd s x 32 ho base 2 i0 (.int .i64 0) 1 8 Try.underlying32 hi0 hz0 hz1 hz2 rfl (by decide) _ _ _ hs hi.owns ad 1 c [.int .i64 y] hx rfl ?_ (by simp [Value.oneCell']) (by unfold maxLen; omega) (by omega) hbase ?_
  · intro j u hj
    match j, hj with
    | 0, hj =>
      simp at hj; subst hj
      have e : ad.add 0 = ad := by unfold Addr.add; split <;> simp_all
      rw [e]; exact hy
    | j + 1, hj => simp at hj
  · intro v' w' hown hgr hn hat
    have e1 : (xs ++ [y]).length = xs.length + 1 := by simp
    have e2 : (xs ++ [y]).map (Value.int .i64) = xs.map (Value.int .i64) ++ [.int .i64 y] := by simp
    rw [← e1, ← e2] at hown
    obtain ⟨g', cap', rfl, hI⟩ := Ints.of_owns hown (fun e => by simpa [ival] using hn.1 e)
    refine h g' cap' w' hI hgr ?_
    simpa [ival, Value.ownBlock] using hat
end Go.Proofs.Ytmcffhafonemeaa
