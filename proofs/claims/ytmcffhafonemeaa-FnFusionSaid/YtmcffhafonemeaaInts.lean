/- Words and laws of a slice of int64 that the call itself made: as a list of numbers, through an append, a read and a pop. -/
import Derived.Test.YtmcffhafonemeaaBase
import Derived.WalkSmall
import Derived.StillTailTactics
namespace Go.Proofs.Ytmcffhafonemeaa
open Go.RowKit

/-- Block g, of a number at least base, holds the numbers xs, and has room for cap. -/
def Ints (w : World) (base g cap : Nat) (xs : List Int) : Prop :=
  base ≤ g ∧ xs.length ≤ cap ∧ cap ≤ maxLen ∧ ∃ cur : Array Value, Own w g cur 2 ∧ cur.size = cap ∧ cur.toList.take xs.length = xs.map (Value.int .i64)
/-- The value of such a slice. -/
def ival (g cap : Nat) (xs : List Int) : Value := .slice (some ⟨g, 0, none⟩) xs.length cap

theorem Ints.lt {w : World} {base g cap : Nat} {xs : List Int} (h : Ints w base g cap xs) : g < w.heap.size := by
  obtain ⟨_, _, _, cur, ho, _⟩ := h; exact ho.lt
theorem Ints.cell {w : World} {base g cap : Nat} {xs : List Int} (h : Ints w base g cap xs) (j : Nat) (hj : j < xs.length) : w.cell? ⟨g, j, none⟩ = some (.int .i64 (xs.getD j 0)) := by
  obtain ⟨_, h2, _, cur, ho, hs, ht⟩ := h
  rw [ho.cell]
  have e : (cur.toList.take xs.length)[j]? = (xs.map (Value.int .i64))[j]? := by rw [ht]
  rw [List.getElem?_take_of_lt hj] at e
  simpa [hj] using e
theorem Ints.below {w w' : World} {base g cap B : Nat} {xs : List Int} (h : Ints w base g cap xs) (hb : Below B w w') (hB : g < B) : Ints w' base g cap xs := by
  obtain ⟨h1, h2, h3, cur, ho, hs, ht⟩ := h
  exact ⟨h1, h2, h3, cur, ho.below hb hB, hs, ht⟩
theorem Ints.only {w w' : World} {base g cap b : Nat} {xs : List Int} (h : Ints w base g cap xs) (hb : Only b w w') (hB : g ≠ b) : Ints w' base g cap xs := by
  obtain ⟨h1, h2, h3, cur, ho, hs, ht⟩ := h
  exact ⟨h1, h2, h3, cur, ho.only hb hB, hs, ht⟩
theorem Ints.alloc {w : World} {base g cap : Nat} {xs : List Int} (h : Ints w base g cap xs) (o : Obj) : Ints (w.alloc o) base g cap xs := by
  obtain ⟨h1, h2, h3, cur, ho, hs, ht⟩ := h
  exact ⟨h1, h2, h3, cur, ho.alloc o, hs, ht⟩
theorem Ints.drewN {w : World} {base g cap : Nat} {xs : List Int} (h : Ints w base g cap xs) (n : Nat) : Ints (w.drewN n) base g cap xs := h
theorem Ints.pop {w : World} {base g cap : Nat} {xs : List Int} {x : Int} (h : Ints w base g cap (xs ++ [x])) : Ints w base g cap xs := by
  obtain ⟨h1, h2, h3, cur, ho, hs, ht⟩ := h
  simp only [List.length_append, List.length_cons, List.length_nil] at h2
  refine ⟨h1, by omega, h3, cur, ho, hs, ?_⟩
  have e : (cur.toList.take (xs ++ [x]).length).take xs.length = ((xs ++ [x]).map (Value.int .i64)).take xs.length := by rw [ht]
  rw [List.take_take, Nat.min_eq_left (by simp)] at e
  rw [e, List.map_append, List.take_append_of_le_length (by simp)]
  rw [List.take_of_length_le (by simp)]
theorem Ints.owns {w : World} {base g cap : Nat} {xs : List Int} (h : Ints w base g cap xs) : w.ownsRow base 2 1 (ival g cap xs) xs.length (xs.map (Value.int .i64)) := by
  obtain ⟨h1, h2, h3, cur, ho, hs, ht⟩ := h
  exact ⟨by simp, .inr ⟨g, cap, cur, rfl, h1, ho, h2, h3, by simpa using hs, by simpa using ht⟩⟩
theorem Ints.of_owns {w : World} {base : Nat} {v : Value} {xs : List Int} (h : w.ownsRow base 2 1 v xs.length (xs.map (Value.int .i64))) (hv : v ≠ .slice none 0 0) : ∃ g cap, v = ival g cap xs ∧ Ints w base g cap xs := by
  obtain ⟨_, ⟨h0, _⟩ | ⟨g, cap, cur, hv', hg, hh, hn, hcap, hsz, htake⟩⟩ := h
  · exact absurd h0 hv
  · exact ⟨g, cap, hv', hg, hn, hcap, cur, hh, by simpa using hsz, by simpa using htake⟩
theorem Ints.new (w : World) (base n cap : Nat) (hb : base ≤ w.heap.size) (hw : w.heap.size = n) (hc : cap ≤ maxLen) (cs : Array Value) (hs : cs.size = cap) : Ints (w.alloc (.cells cs 2)) base n cap [] := by
  subst hw
  exact ⟨hb, Nat.zero_le _, hc, cs, Own.new _ _ _, hs, by simp⟩

theorem info64 : (Try.prog.info? 2).map (fun i => (i.zero, i.size, i.bytes)) = some (some (.int .i64 0), 1, 8) := by kernel_rfl
/-- One number is appended. -/
theorem wpList_append_ints {ops : Array Oper} {rest : List Oper} {o : Oper} {a : Act} {w : World} {Q : Exit → Act → World → Prop} (hgd : o.guard = none) (s x : Operand)
    (ho : o.op = .call { callee := .builtin .append, args := #[s, x], argTypes := #[32, 32] })
    (base g cap : Nat) (xs : List Int) (y : Int) (hs : a.eval s = ival g cap xs) (hi : Ints w base g cap xs) (ad : Addr) (c : Nat)
    (hx : a.eval x = .slice (some ad) 1 c) (hy : w.cell? ad = some (.int .i64 y)) (hl : xs.length < 2097152) (hbase : base ≤ w.heap.size)
    (h : ∀ g' cap' w', Ints w' base g' cap' (xs ++ [y]) → w.grownBy w' (some g) → wpList Try.prog ops Q rest (a.put o.dst (ival g' cap' (xs ++ [y]))) w') : wpList Try.prog ops Q (o :: rest) a w := by
  obtain ⟨i0, hi0, hz0, hz1, hz2⟩ := info_parts info64
  refine wpList_append_own w hgd s x 32 ho base 2 i0 (.int .i64 0) 1 8 Try.underlying32 hi0 hz0 hz1 hz2 rfl (by decide) _ _ _ hs hi.owns ad 1 c [.int .i64 y] hx rfl ?_ (by simp [Value.oneCell']) (by unfold maxLen; omega) (by omega) hbase ?_
  · intro j u hj
    match j, hj with
    | 0, hj =>
      simp at hj; subst hj
      have e : ad.add 0 = ad := by unfold Addr.add; split <;> simp_all
      rw [e]; exact hy
    | j + 1, hj => simp at hj
  · intro v' w' hown hgr hn
    have e1 : (xs ++ [y]).length = xs.length + 1 := by simp
    have e2 : (xs ++ [y]).map (Value.int .i64) = xs.map (Value.int .i64) ++ [.int .i64 y] := by simp
    rw [← e1, ← e2] at hown
    obtain ⟨g', cap', rfl, hI⟩ := Ints.of_owns hown (fun e => by simpa [ival] using hn.1 e)
    exact h g' cap' w' hI hgr
theorem Own.grown {w w' : World} {b g : Nat} {cs : Array Value} {t : TypeId} (h : Own w b cs t) (hg : w.grownBy w' (some g)) (hb : b ≠ g) : Own w' b cs t := by
  show w'.heap[b]? = _
  rw [hg.block b h.lt (fun e => hb (by simpa using e))]; exact h

/-- A whole row is read, in a region that draws its order. -/
theorem still_load_row {P : Program} {o : Oper} {a : Act} {w : World} {K : Act → Prop} (ty : TypeId) (x : Operand) (ho : o.op = .load ty x)
    (g : Nat) (hx : a.eval x = .pointer (some ⟨g, 0, none⟩)) (t : TypeId) (cs : Array Value) (d : TypeDesc) (hg : Own w g cs t)
    (hu : P.underlying ty = some d) (hd : (match d with | .struct _ | .array _ _ => true | _ => false) = true) (hi : (P.info? ty).map (·.size) = some cs.size)
    (h : K (a.put o.dst (.agg cs))) : o.still P a w K := by
  unfold Oper.still execOp
  simp only [ho, hx, Instr.loadAt, Instr.sureAddr, Sem.run_bind, Sem.run_pure, Result.andThen_ok, run_loadVar_row w g t ty cs (0, 0) d hg hu hd hi]
  rw [Oper.stillUpon_value]; exact h

/-- A whole row is read, under a guard that says yes. -/
theorem wpList_load_row_if {P : Program} {ops : Array Oper} {rest : List Oper} {o : Oper} {a : Act} {w : World} {Q : Exit → Act → World → Prop} (hw : Region.wanted o (yielded ops a.tmps) = true) (ty : TypeId) (x : Operand) (ho : o.op = .load ty x)
    (g : Nat) (hx : a.eval x = .pointer (some ⟨g, 0, none⟩)) (t : TypeId) (cs : Array Value) (d : TypeDesc) (hg : Own w g cs t)
    (hu : P.underlying ty = some d) (hd : (match d with | .struct _ | .array _ _ => true | _ => false) = true) (hi : (P.info? ty).map (·.size) = some cs.size)
    (h : wpList P ops Q rest (a.put o.dst (.agg cs)) w) : wpList P ops Q (o :: rest) a w :=
  wpList_step fun K hK => by
    rw [if_pos hw]
    exact wp_load_row ty x ho g hx t cs (0, 0) d hg hu hd hi (hK _ _ h)

end Go.Proofs.Ytmcffhafonemeaa
