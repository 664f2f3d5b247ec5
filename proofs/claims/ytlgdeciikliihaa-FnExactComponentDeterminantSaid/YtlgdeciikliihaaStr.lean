/- Words and laws of a slice of strings that the call itself made. -/
import Derived.Test.YtlgdeciikliihaaInts
namespace Go.Proofs.Ytlgdeciikliihaa
open Go.RowKit
set_option linter.unusedVariables false
set_option linter.unusedSimpArgs false
/-- Block g, of a number at least base, holds the numbers xs, and has room for cap. -/
def Strs (w : World) (base g cap : Nat) (xs : List ByteArray) : Prop :=
  base ≤ g ∧ xs.length ≤ cap ∧ cap ≤ maxLen ∧ ∃ cur : Array Value, Own w g cur 9 ∧ cur.size = cap ∧ cur.toList.take xs.length = xs.map (Value.string)
/-- The value of such a slice. -/
def stval (g cap : Nat) (xs : List ByteArray) : Value := .slice (some ⟨g, 0, none⟩) xs.length cap

theorem Strs.lt {w : World} {base g cap : Nat} {xs : List ByteArray} (h : Strs w base g cap xs) : g < w.heap.size := by
  obtain ⟨_, _, _, cur, ho, _⟩ := h; exact ho.lt
theorem Strs.cell {w : World} {base g cap : Nat} {xs : List ByteArray} (h : Strs w base g cap xs) (j : Nat) (hj : j < xs.length) : w.cell? ⟨g, j, none⟩ = some (.string (xs.getD j ByteArray.empty)) := by
  obtain ⟨_, h2, _, cur, ho, hs, ht⟩ := h
  rw [ho.cell]
  have e : (cur.toList.take xs.length)[j]? = (xs.map (Value.string))[j]? := by rw [ht]
  rw [List.getElem?_take_of_lt hj] at e
  simpa [hj] using e
theorem Strs.below {w w' : World} {base g cap B : Nat} {xs : List ByteArray} (h : Strs w base g cap xs) (hb : Below B w w') (hB : g < B) : Strs w' base g cap xs := by
  obtain ⟨h1, h2, h3, cur, ho, hs, ht⟩ := h
  exact ⟨h1, h2, h3, cur, ho.below hb hB, hs, ht⟩
theorem Strs.only {w w' : World} {base g cap b : Nat} {xs : List ByteArray} (h : Strs w base g cap xs) (hb : Only b w w') (hB : g ≠ b) : Strs w' base g cap xs := by
  obtain ⟨h1, h2, h3, cur, ho, hs, ht⟩ := h
  exact ⟨h1, h2, h3, cur, ho.only hb hB, hs, ht⟩
theorem Strs.alloc {w : World} {base g cap : Nat} {xs : List ByteArray} (h : Strs w base g cap xs) (o : Obj) : Strs (w.alloc o) base g cap xs := by
  obtain ⟨h1, h2, h3, cur, ho, hs, ht⟩ := h
  exact ⟨h1, h2, h3, cur, ho.alloc o, hs, ht⟩
theorem Strs.drewN {w : World} {base g cap : Nat} {xs : List ByteArray} (h : Strs w base g cap xs) (n : Nat) : Strs (w.drewN n) base g cap xs := h
theorem Strs.pop {w : World} {base g cap : Nat} {xs : List ByteArray} {x : ByteArray} (h : Strs w base g cap (xs ++ [x])) : Strs w base g cap xs := by
  obtain ⟨h1, h2, h3, cur, ho, hs, ht⟩ := h
  simp only [List.length_append, List.length_cons, List.length_nil] at h2
  refine ⟨h1, by omega, h3, cur, ho, hs, ?_⟩
  have e : (cur.toList.take (xs ++ [x]).length).take xs.length = ((xs ++ [x]).map (Value.string)).take xs.length := by rw [ht]
  rw [List.take_take, Nat.min_eq_left (by simp)] at e
  rw [e, List.map_append, List.take_append_of_le_length (by simp)]
  rw [List.take_of_length_le (by simp)]
theorem Strs.owns {w : World} {base g cap : Nat} {xs : List ByteArray} (h : Strs w base g cap xs) : w.ownsRow base 9 1 (stval g cap xs) xs.length (xs.map (Value.string)) := by
  obtain ⟨h1, h2, h3, cur, ho, hs, ht⟩ := h
  exact ⟨by simp, .inr ⟨g, cap, cur, rfl, h1, ho, h2, h3, by simpa using hs, by simpa using ht⟩⟩
theorem Strs.of_owns {w : World} {base : Nat} {v : Value} {xs : List ByteArray} (h : w.ownsRow base 9 1 v xs.length (xs.map (Value.string))) (hv : v ≠ .slice none 0 0) : ∃ g cap, v = stval g cap xs ∧ Strs w base g cap xs := by
  obtain ⟨_, ⟨h0, _⟩ | ⟨g, cap, cur, hv', hg, hh, hn, hcap, hsz, htake⟩⟩ := h
  · exact absurd h0 hv
  · exact ⟨g, cap, hv', hg, hn, hcap, cur, hh, by simpa using hsz, by simpa using htake⟩
theorem Strs.new (w : World) (base n cap : Nat) (hb : base ≤ w.heap.size) (hw : w.heap.size = n) (hc : cap ≤ maxLen) (cs : Array Value) (hs : cs.size = cap) : Strs (w.alloc (.cells cs 9)) base n cap [] := by
  subst hw
  exact ⟨hb, Nat.zero_le _, hc, cs, Own.new _ _ _, hs, by simp⟩

theorem infoStr : (Try.prog.info? 9).map (fun i => (i.zero, i.size, i.bytes)) = some (some (.string ByteArray.empty), 1, 16) := by kernel_rfl
/-- One number is appended. -/
theorem wpList_append_strs {ops : Array Oper} {rest : List Oper} {o : Oper} {a : Act} {w : World} {Q : Exit → Act → World → Prop} (hgd : o.guard = none) (s x : Operand)
    (ho : o.op = .call { callee := .builtin .append, args := #[s, x], argTypes := #[72, 72] })
    (base g cap : Nat) (xs : List ByteArray) (y : ByteArray) (hs : a.eval s = stval g cap xs) (hi : Strs w base g cap xs) (ad : Addr) (c : Nat)
    (hx : a.eval x = .slice (some ad) 1 c) (hy : w.cell? ad = some (.string y)) (hl : xs.length < 2097152) (hbase : base ≤ w.heap.size)
    (h : ∀ g' cap' w', Strs w' base g' cap' (xs ++ [y]) → w.grownBy w' (some g) → wpList Try.prog ops Q rest (a.put o.dst (stval g' cap' (xs ++ [y]))) w') : wpList Try.prog ops Q (o :: rest) a w := by
  obtain ⟨i0, hi0, hz0, hz1, hz2⟩ := info_parts infoStr
  refine wpList_append_own w hgd s x 72 ho base 9 i0 (.string ByteArray.empty) 1 16 Try.underlying72 hi0 hz0 hz1 hz2 rfl (by decide) _ _ _ hs hi.owns ad 1 c [.string y] hx rfl ?_ (by simp [Value.oneCell']) (by unfold maxLen; omega) (by omega) hbase ?_
  · intro j u hj
    match j, hj with
    | 0, hj =>
      simp at hj; subst hj
      have e : ad.add 0 = ad := by unfold Addr.add; split <;> simp_all
      rw [e]; exact hy
    | j + 1, hj => simp at hj
  · intro v' w' hown hgr hn
    have e1 : (xs ++ [y]).length = xs.length + 1 := by simp
    have e2 : (xs ++ [y]).map (Value.string) = xs.map (Value.string) ++ [.string y] := by simp
    rw [← e1, ← e2] at hown
    obtain ⟨g', cap', rfl, hI⟩ := Strs.of_owns hown (fun e => by simpa [stval] using hn.1 e)
    exact h g' cap' w' hI hgr
end Go.Proofs.Ytlgdeciikliihaa
