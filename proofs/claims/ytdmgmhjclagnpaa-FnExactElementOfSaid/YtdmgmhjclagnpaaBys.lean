/- Laws of a slice of bytes that the call itself made. -/
import Derived.Test.YtdmgmhjclagnpaaInts
namespace Go.Proofs.Ytdmgmhjclagnpaa
open Go.RowKit

/-- Block g, of a number at least base, holds the numbers xs, and has room for cap. -/
def Bys (w : World) (base g cap : Nat) (xs : List Int) : Prop :=
  base ≤ g ∧ xs.length ≤ cap ∧ cap ≤ maxLen ∧ ∃ cur : Array Value, Own w g cur 5 ∧ cur.size = cap ∧ cur.toList.take xs.length = xs.map (Value.int .u8)
/-- The value of such a slice. -/
def bval (g cap : Nat) (xs : List Int) : Value := .slice (some ⟨g, 0, none⟩) xs.length cap

theorem Bys.lt {w : World} {base g cap : Nat} {xs : List Int} (h : Bys w base g cap xs) : g < w.heap.size := by
  obtain ⟨_, _, _, cur, ho, _⟩ := h; exact ho.lt
theorem Bys.cell {w : World} {base g cap : Nat} {xs : List Int} (h : Bys w base g cap xs) (j : Nat) (hj : j < xs.length) : w.cell? ⟨g, j, none⟩ = some (.int .u8 (xs.getD j 0)) := by
  obtain ⟨_, h2, _, cur, ho, hs, ht⟩ := h
  rw [ho.cell]
  have e : (cur.toList.take xs.length)[j]? = (xs.map (Value.int .u8))[j]? := by rw [ht]
  rw [List.getElem?_take_of_lt hj] at e
  simpa [hj] using e
theorem Bys.below {w w' : World} {base g cap B : Nat} {xs : List Int} (h : Bys w base g cap xs) (hb : Below B w w') (hB : g < B) : Bys w' base g cap xs := by
  obtain ⟨h1, h2, h3, cur, ho, hs, ht⟩ := h
  exact ⟨h1, h2, h3, cur, ho.below hb hB, hs, ht⟩
theorem Bys.only {w w' : World} {base g cap b : Nat} {xs : List Int} (h : Bys w base g cap xs) (hb : Only b w w') (hB : g ≠ b) : Bys w' base g cap xs := by
  obtain ⟨h1, h2, h3, cur, ho, hs, ht⟩ := h
  exact ⟨h1, h2, h3, cur, ho.only hb hB, hs, ht⟩
theorem Bys.alloc {w : World} {base g cap : Nat} {xs : List Int} (h : Bys w base g cap xs) (o : Obj) : Bys (w.alloc o) base g cap xs := by
  obtain ⟨h1, h2, h3, cur, ho, hs, ht⟩ := h
  exact ⟨h1, h2, h3, cur, ho.alloc o, hs, ht⟩
theorem Bys.drewN {w : World} {base g cap : Nat} {xs : List Int} (h : Bys w base g cap xs) (n : Nat) : Bys (w.drewN n) base g cap xs := h
theorem Bys.pop {w : World} {base g cap : Nat} {xs : List Int} {x : Int} (h : Bys w base g cap (xs ++ [x])) : Bys w base g cap xs := by
  obtain ⟨h1, h2, h3, cur, ho, hs, ht⟩ := h
  simp only [List.length_append, List.length_cons, List.length_nil] at h2
  refine ⟨h1, by omega, h3, cur, ho, hs, ?_⟩
  have e : (cur.toList.take (xs ++ [x]).length).take xs.length = ((xs ++ [x]).map (Value.int .u8)).take xs.length := by rw [ht]
  rw [List.take_take, Nat.min_eq_left (by simp)] at e
  rw [e, List.map_append, List.take_append_of_le_length (by simp)]
  rw [List.take_of_length_le (by simp)]
theorem Bys.owns {w : World} {base g cap : Nat} {xs : List Int} (h : Bys w base g cap xs) : w.ownsRow base 5 1 (bval g cap xs) xs.length (xs.map (Value.int .u8)) := by
  obtain ⟨h1, h2, h3, cur, ho, hs, ht⟩ := h
  exact ⟨by simp, .inr ⟨g, cap, cur, rfl, h1, ho, h2, h3, by simpa using hs, by simpa using ht⟩⟩
theorem Bys.of_owns {w : World} {base : Nat} {v : Value} {xs : List Int} (h : w.ownsRow base 5 1 v xs.length (xs.map (Value.int .u8))) (hv : v ≠ .slice none 0 0) : ∃ g cap, v = bval g cap xs ∧ Bys w base g cap xs := by
  obtain ⟨_, ⟨h0, _⟩ | ⟨g, cap, cur, hv', hg, hh, hn, hcap, hsz, htake⟩⟩ := h
  · exact absurd h0 hv
  · exact ⟨g, cap, hv', hg, hn, hcap, cur, hh, by simpa using hsz, by simpa using htake⟩
theorem Bys.new (w : World) (base n cap : Nat) (hb : base ≤ w.heap.size) (hw : w.heap.size = n) (hc : cap ≤ maxLen) (cs : Array Value) (hs : cs.size = cap) : Bys (w.alloc (.cells cs 5)) base n cap [] := by
  subst hw
  exact ⟨hb, Nat.zero_le _, hc, cs, Own.new _ _ _, hs, by simp⟩

theorem info8 : (Try.prog.info? 5).map (fun i => (i.zero, i.size, i.bytes)) = some (some (.int .u8 0), 1, 1) := by kernel_rfl
/-- One number is appended. -/
theorem wpList_append_bys {ops : Array Oper} {rest : List Oper} {o : Oper} {a : Act} {w : World} {Q : Exit → Act → World → Prop} (hgd : o.guard = none) (s x : Operand)
    (ho : o.op = .call { callee := .builtin .append, args := #[s, x], argTypes := #[106, 106] })
    (base g cap : Nat) (xs : List Int) (y : Int) (hs : a.eval s = bval g cap xs) (hi : Bys w base g cap xs) (ad : Addr) (c : Nat)
    (hx : a.eval x = .slice (some ad) 1 c) (hy : w.cell? ad = some (.int .u8 y)) (hl : xs.length < 1000000) (hbase : base ≤ w.heap.size)
    (h : ∀ g' cap' w', Bys w' base g' cap' (xs ++ [y]) → w.grownBy w' (some g) → wpList Try.prog ops Q rest (a.put o.dst (bval g' cap' (xs ++ [y]))) w') : wpList Try.prog ops Q (o :: rest) a w := by
  obtain ⟨i0, hi0, hz0, hz1, hz2⟩ := info_parts info8
  refine wpList_append_own w hgd s x 106 ho base 5 i0 (.int .u8 0) 1 1 Try.underlying106 hi0 hz0 hz1 hz2 rfl (by decide) _ _ _ hs hi.owns ad 1 c [.int .u8 y] hx rfl ?_ (by simp [Value.oneCell']) (by unfold maxLen; omega) (by omega) hbase ?_
  · intro j u hj
    match j, hj with
    | 0, hj =>
      simp at hj; subst hj
      have e : ad.add 0 = ad := by unfold Addr.add; split <;> simp_all
      rw [e]; exact hy
    | j + 1, hj => simp at hj
  · intro v' w' hown hgr hn
    have e1 : (xs ++ [y]).length = xs.length + 1 := by simp
    have e2 : (xs ++ [y]).map (Value.int .u8) = xs.map (Value.int .u8) ++ [.int .u8 y] := by simp
    rw [← e1, ← e2] at hown
    obtain ⟨g', cap', rfl, hI⟩ := Bys.of_owns hown (fun e => by simpa [bval] using hn.1 e)
    exact h g' cap' w' hI hgr

theorem mk0b : ∀ w : World, (Instr.buildSlice 106 0 #[]).run Try.prog w = .ok (.slice (some ⟨w.heap.size, 0, none⟩) 0 0) (w.alloc (.cells #[] 5)) := by
  intro w; kernel_rfl
end Go.Proofs.Ytdmgmhjclagnpaa
