/- Plain mathematics: the lines of a diagram that are open to the left, as the program and the model find them. The program's parts of letters: own slices of slices of bytes, and the walk of outerParts. Bytes of a text that the call has copied: a row that bears a conversion's mark beyond its end, and an append to it. Slices of int64 that a call hands back: as own memory; the laws' marks on them. The program's lines of a diagram that are open to the left. Plain mathematics: a text that is read as a diagram is that diagram's text. The program's list of all diagrams. -/
import Derived.Test.YtbibmncepjmgcaaKb
import Derived.Test.YtbibmncepjmgcaaKc
import Derived.Lib.ConvBytes
import Derived.Lib.FrozenHead
import Derived.Test.YtbibmncepjmgcaaKe
namespace Go.Proofs.Ytbibmncepjmgcaa
open Go.RowKit
set_option linter.unusedVariables false
/-- The places at which nothing is open, of the first k. -/
def starts (n : Int) (ms : List Int) (k : Nat) : List Nat := (List.range k).filter (fun s => (opens n ms s).isEmpty)
theorem starts_succ (n : Int) (ms : List Int) (k : Nat) : starts n ms (k + 1) = if opens n ms k = [] then starts n ms k ++ [k] else starts n ms k := by
  unfold starts
  rw [List.range_succ, List.filter_append]
  by_cases h : opens n ms k = []
  · rw [if_pos h, List.filter_cons_of_pos (by simp [h]), List.filter_nil]
  · rw [if_neg h, List.filter_cons_of_neg (by simp [h]), List.filter_nil, List.append_nil]
theorem mem_starts {n : Int} {ms : List Int} {k s : Nat} : s ∈ starts n ms k ↔ s < k ∧ opens n ms s = [] := by
  unfold starts; simp
/-- Nothing is open behind the last place. -/
theorem opens_end {n : Int} {ms : List Int} (h : Net n ms) : opens n ms (2 * n).toNat = [] := by
  have hn := h.bd
  unfold opens
  rw [List.map_eq_nil_iff, List.filter_eq_nil_iff]
  intro p hp
  rw [List.mem_range] at hp
  have := h.lt p (by omega) (by omega)
  simp; omega
/-- What a letter does to the number of open brackets. -/
def stp (c : Int) : Int := if c = 40 ∨ c = 91 then 1 else if c = 41 ∨ c = 93 then -1 else 0
/-- The program's parts behind k letters: pairs of the first place and that behind the last, the first place of the part under way, and how many are open. -/
def cutP (L : List Int) : Nat → List (Nat × Nat) × Nat × Int
  | 0 => ([], 0, 0)
  | k + 1 =>
    if (cutP L k).2.2 + stp (L.getD k 0) = 0 then ((cutP L k).1 ++ [((cutP L k).2.1, k + 1)], k + 1, 0)
    else ((cutP L k).1, (cutP L k).2.1, (cutP L k).2.2 + stp (L.getD k 0))
theorem cutP_bd (L : List Int) (k : Nat) : (cutP L k).1.length ≤ k ∧ (cutP L k).2.1 ≤ k ∧ -(k : Int) ≤ (cutP L k).2.2 ∧ (cutP L k).2.2 ≤ k ∧ ∀ q ∈ (cutP L k).1, q.1 < q.2 ∧ q.2 ≤ k := by
  induction k with
  | zero => simp [cutP]
  | succ k ih =>
    obtain ⟨h1, h2, h3, h4, h5⟩ := ih
    have hs : -1 ≤ stp (L.getD k 0) ∧ stp (L.getD k 0) ≤ 1 := by unfold stp; split <;> (try split) <;> omega
    rw [cutP]
    split
    · refine ⟨by simp; omega, by simp, by simp <;> omega, by simp <;> omega, ?_⟩
      intro q hq
      simp only [List.mem_append, List.mem_singleton] at hq
      rcases hq with hq | rfl
      · have := h5 q hq; omega
      · exact ⟨by show _ < _ + 1; omega, Nat.le_refl _⟩
    · exact ⟨by simp only; omega, by simp only; omega, by simp only; omega, by simp only; omega, fun q hq => by have := h5 q hq; omega⟩
/-- The part of a line that is open to the left. -/
def prt (n : Int) (ms : List Int) (s : Nat) : Nat × Nat := (s, (qq n ms s).toNat + 1)
/-- The letters are brackets as the lines say. -/
def Lett (n : Int) (ms : List Int) (L : List Int) : Prop := ∀ k : Nat, (k : Int) < 2 * n → stp (L.getD k 0) = if (k : Int) < qq n ms k then 1 else -1
theorem cut_inv {n : Int} {ms : List Int} (h : Net n ms) (L : List Int) (hL : Lett n ms L) (k : Nat) (hk : (k : Int) ≤ 2 * n) :
    (cutP L k).2.2 = ((opens n ms k).length : Int) ∧ ∃ ss, (cutP L k).1 = ss.map (prt n ms) ∧ (opens n ms k = [] → starts n ms k = ss ∧ (cutP L k).2.1 = k) ∧
      (opens n ms k ≠ [] → starts n ms k = ss ++ [(cutP L k).2.1] ∧ (opens n ms k).head? = some ((cutP L k).2.1 : Int)) := by
  induction k with
  | zero => exact ⟨rfl, [], rfl, fun _ => ⟨rfl, rfl⟩, fun e => (e rfl).elim⟩
  | succ k ih =>
    obtain ⟨hd, ss, h1, h2, h3⟩ := ih (by omega)
    have hk' : (k : Int) < 2 * n := by omega
    have q0 := h.lt k (by omega) hk'
    have qi := h.inv k (by omega) hk'
    have hl := hL k hk'
    rw [cutP]
    by_cases hq : (k : Int) < qq n ms k
    · rw [if_pos hq] at hl
      have hu := opens_up h k hk' hq
      rw [if_neg (by omega)]
      refine ⟨by rw [hu, List.length_append]; show (cutP L k).2.2 + stp (L.getD k 0) = _; rw [hd, hl]; rfl, ss, h1, fun e => by rw [hu] at e; simp at e, fun _ => ?_⟩
      rw [starts_succ]
      by_cases h0 : opens n ms k = []
      · rw [if_pos h0, hu, h0]
        obtain ⟨e1, e2⟩ := h2 h0
        simp only
        rw [e1, e2]; exact ⟨rfl, rfl⟩
      · rw [if_neg h0, hu]
        obtain ⟨e1, e2⟩ := h3 h0
        refine ⟨e1, ?_⟩
        rw [List.head?_append, e2]; rfl
    · have hq' : qq n ms k < k := by omega
      rw [if_neg hq] at hl
      have hdn := opens_down h k hk' hq'
      have h0 : opens n ms k ≠ [] := by rw [hdn]; simp
      obtain ⟨e1, e2⟩ := h3 h0
      have hlen : ((opens n ms k).length : Int) = (opens n ms (k + 1)).length + 1 := by rw [hdn, List.length_append]; simp
      rw [starts_succ, if_neg h0]
      by_cases hz : opens n ms (k + 1) = []
      · have z0 : ((opens n ms (k + 1)).length : Int) = 0 := by rw [hz]; rfl
        rw [if_pos (by omega)]
        refine ⟨by rw [hz]; rfl, ss ++ [(cutP L k).2.1], ?_, fun _ => ⟨e1, rfl⟩, fun e => (e hz).elim⟩
        rw [h1, List.map_append]
        rw [hdn, hz] at e2
        simp at e2
        have : prt n ms (cutP L k).2.1 = ((cutP L k).2.1, k + 1) := by
          unfold prt
          rw [← e2, qi]; rfl
        simp [this]
      · have z0 : ((opens n ms (k + 1)).length : Int) ≠ 0 := by
          intro e; exact hz (List.length_eq_zero_iff.1 (by omega))
        rw [if_neg (by omega)]
        refine ⟨by simp only; omega, ss, h1, fun e => (hz e).elim, fun _ => ⟨e1, ?_⟩⟩
        rw [hdn, List.head?_append] at e2
        cases ho : opens n ms (k + 1) with
        | nil => exact (hz ho).elim
        | cons a t => rw [ho] at e2; simpa using e2
/-- The parts of a diagram's letters. -/
theorem cut_all {n : Int} {ms : List Int} (h : Net n ms) (L : List Int) (hL : Lett n ms L) : (cutP L (2 * n).toNat).1 = (starts n ms (2 * n).toNat).map (prt n ms) := by
  have hn := h.bd
  obtain ⟨_, ss, h1, h2, _⟩ := cut_inv h L hL (2 * n).toNat (by omega)
  rw [h1, (h2 (opens_end h)).1]
/-- At a place at which nothing is open a line starts. -/
theorem start_up {n : Int} {ms : List Int} (h : Net n ms) (s : Nat) (hs : (s : Int) < 2 * n) (ho : opens n ms s = []) : (s : Int) < qq n ms s := by
  have q0 := h.lt s (by omega) hs
  by_cases hq : (s : Int) < qq n ms s
  · exact hq
  · rw [opens_down h s hs (by omega)] at ho
    simp at ho
/-- The model's marks of points behind k places. -/
def opB (n : Int) (ms : List Int) : Nat → List Bool
  | 0 => List.replicate 16 false
  | k + 1 => if opens n ms k = [] then ((opB n ms k).set (pl n k).toNat true).set (mate ms (pl n k)).toNat true else opB n ms k
theorem opB_len (n : Int) (ms : List Int) (k : Nat) : (opB n ms k).length = 16 := by
  induction k with
  | zero => rfl
  | succ k ih => rw [opB]; split <;> simp [ih]
theorem set_true (l : List Bool) (a i : Nat) (hi : i < l.length) : (l.set a true).getD i false = true ↔ i = a ∨ l.getD i false = true := by
  rw [List.getD_eq_getElem?_getD, List.getD_eq_getElem?_getD, List.getElem?_set]
  by_cases e : a = i
  · subst e; simp [hi]
  · rw [if_neg e]
    constructor
    · exact .inr
    · rintro (h | h)
      · exact (e h.symm).elim
      · exact h
theorem opB_get (n : Int) (ms : List Int) (k i : Nat) (hi : i < 16) : (opB n ms k).getD i false = true ↔ ∃ s ∈ starts n ms k, i = (pl n s).toNat ∨ i = (mate ms (pl n s)).toNat := by
  induction k with
  | zero =>
    unfold opB starts
    rw [List.getD_eq_getElem?_getD, List.getElem?_replicate, if_pos hi]
    simp
  | succ k ih =>
    rw [opB, starts_succ]
    split
    · rw [set_true _ _ _ (by rw [List.length_set, opB_len]; exact hi), set_true _ _ _ (by rw [opB_len]; exact hi), ih]
      constructor
      · rintro (h | h | ⟨s, h, h'⟩)
        · exact ⟨k, by simp, .inr h⟩
        · exact ⟨k, by simp, .inl h⟩
        · exact ⟨s, by simp [h], h'⟩
      · rintro ⟨s, h, h'⟩
        simp only [List.mem_append, List.mem_singleton] at h
        rcases h with h | rfl
        · exact .inr (.inr ⟨s, h, h'⟩)
        · rcases h' with h' | h'
          · exact .inr (.inl h')
          · exact .inl h'
    · exact ih
end Go.Proofs.Ytbibmncepjmgcaa
namespace Go.Proofs.Ytbibmncepjmgcaa
open Go.RowKit
set_option linter.unusedVariables false
set_option linter.unusedSimpArgs false
/-- A slice of slices of bytes of the call's own. -/
def Prs (w : World) (base g cap : Nat) (xs : List Value) : Prop :=
  base ≤ g ∧ xs.length ≤ cap ∧ cap ≤ maxLen ∧ ∃ cur : Array Value, Own w g cur 99 ∧ cur.size = cap ∧ cur.toList.take xs.length = xs
theorem Prs.lt {w : World} {base g cap : Nat} {xs : List Value} (h : Prs w base g cap xs) : g < w.heap.size := by
  obtain ⟨_, _, _, cur, ho, _⟩ := h; exact ho.lt
theorem Prs.cell {w : World} {base g cap : Nat} {xs : List Value} (h : Prs w base g cap xs) (j : Nat) (hj : j < xs.length) : w.cell? ⟨g, j, none⟩ = xs[j]? := by
  obtain ⟨_, h2, _, cur, ho, hs, ht⟩ := h
  rw [ho.cell]
  have e : (cur.toList.take xs.length)[j]? = xs[j]? := by rw [ht]
  rw [List.getElem?_take_of_lt hj] at e
  simpa using e
theorem Prs.below {w w' : World} {base g cap B : Nat} {xs : List Value} (h : Prs w base g cap xs) (hb : Below B w w') (hB : g < B) : Prs w' base g cap xs := by
  obtain ⟨h1, h2, h3, cur, ho, hs, ht⟩ := h
  exact ⟨h1, h2, h3, cur, ho.below hb hB, hs, ht⟩
theorem Prs.only {w w' : World} {base g cap b : Nat} {xs : List Value} (h : Prs w base g cap xs) (hb : Only b w w') (hB : g ≠ b) : Prs w' base g cap xs := by
  obtain ⟨h1, h2, h3, cur, ho, hs, ht⟩ := h
  exact ⟨h1, h2, h3, cur, ho.only hb hB, hs, ht⟩
theorem Prs.alloc {w : World} {base g cap : Nat} {xs : List Value} (h : Prs w base g cap xs) (o : Obj) : Prs (w.alloc o) base g cap xs := by
  obtain ⟨h1, h2, h3, cur, ho, hs, ht⟩ := h
  exact ⟨h1, h2, h3, cur, ho.alloc o, hs, ht⟩
theorem Prs.grown {w w' : World} {base g cap b : Nat} {xs : List Value} (h : Prs w base g cap xs) (hg : w.grownBy w' (some b)) (hb : g ≠ b) : Prs w' base g cap xs := by
  obtain ⟨h1, h2, h3, cur, ho, hs, ht⟩ := h
  exact ⟨h1, h2, h3, cur, ho.grown hg hb, hs, ht⟩
def prval (g cap : Nat) (xs : List Value) : Value := .slice (some ⟨g, 0, none⟩) xs.length cap
theorem Prs.owns {w : World} {base g cap : Nat} {xs : List Value} (h : Prs w base g cap xs) : w.ownsRow base 99 1 (prval g cap xs) xs.length xs := by
  obtain ⟨h1, h2, h3, cur, ho, hs, ht⟩ := h
  exact ⟨by simp, .inr ⟨g, cap, cur, rfl, h1, ho, h2, h3, by simpa using hs, by simpa using ht⟩⟩
theorem Prs.of_owns {w : World} {base : Nat} {v : Value} {xs : List Value} (h : w.ownsRow base 99 1 v xs.length xs) (hv : v ≠ .slice none 0 0) : ∃ g cap, v = prval g cap xs ∧ Prs w base g cap xs := by
  obtain ⟨_, ⟨h0, _⟩ | ⟨g, cap, cur, hv', hg, hh, hn, hcap, hsz, htake⟩⟩ := h
  · exact absurd h0 hv
  · exact ⟨g, cap, hv', hg, hn, hcap, cur, hh, by simpa using hsz, by simpa using htake⟩
theorem Prs.new (w : World) (base n cap : Nat) (hb : base ≤ w.heap.size) (hw : w.heap.size = n) (hc : cap ≤ maxLen) (cs : Array Value) (hs : cs.size = cap) : Prs (w.alloc (.cells cs 99)) base n cap [] := by
  subst hw
  exact ⟨hb, Nat.zero_le _, hc, cs, Own.new _ _ _, hs, by simp⟩
theorem infoPr : (Try.prog.info? 99).map (fun i => (i.zero, i.size, i.bytes)) = some (some (.slice none 0 0), 1, 24) := by kernel_rfl
/-- A part as a slice of the letters. -/
def pv (g : Nat) (q : Nat × Nat) : Value := .slice (some ⟨g, q.1, none⟩) (q.2 - q.1) (q.2 - q.1)
set_option maxRecDepth 100000 in
theorem slPart (g N cap f e : Nat) (h1 : f < e) (h2 : e ≤ cap) : ∀ w : World, (Instr.slice 99 (.slice (some ⟨g, 0, none⟩) N cap) (some (.int .i64 (f : Int))) (some (.int .i64 (e : Int))) (some (.int .i64 (e : Int)))).run Try.prog w = .ok (pv g (f, e)) w := by
  intro w
  have hs : (sizeOf (Try.prog.elem 99)).run Try.prog w = .ok 1 w := by kernel_rfl
  rw [run_slice_lhm w 99 _ N cap Try.underlying99 .i64 .i64 .i64 f e e (by omega) (by omega) (by omega) (by omega), hs]
  unfold sliced pv
  simp only [Result.andThen, Int.toNat_natCast, Option.map_some]
  rw [if_neg (by omega)]
  simp only [Nat.mul_one]
  unfold Addr.add
  simp
  omega
/-- The letters can be read. -/
def RdL (w : World) (g : Nat) (L : List Int) : Prop := g < w.heap.size ∧ ∀ j, j < L.length → w.cell? ⟨g, j, none⟩ = some (.int .u8 (L.getD j 0))
theorem RdL.below {w w' : World} {g B : Nat} {L : List Int} (h : RdL w g L) (hb : Below B w w') (hB : g < B) : RdL w' g L :=
  ⟨Nat.lt_of_lt_of_le h.1 hb.size, fun j hj => by rw [← h.2 j hj]; unfold World.cell?; simp only; rw [hb.block g hB]⟩
def OutPost (L : List Int) (g : Nat) (w : World) (e : Ending) (w' : World) : Prop :=
  ∃ g' cap', e = .returned (.slice (some ⟨g', 0, none⟩) (cutP L L.length).1.length cap') ∧ Prs w' w.heap.size g' cap' ((cutP L L.length).1.map (pv g)) ∧ Below w.heap.size w w'
theorem cut_more (L : List Int) (k : Nat) (P : List (Nat × Nat)) (f : Nat) (d : Int) (h : cutP L k = (P, f, d)) (s : Int) (hs : stp (L.getD k 0) = s) (hz : ¬ d + s = 0) : cutP L (k + 1) = (P, f, d + s) := by
  rw [cutP, h, hs, if_neg hz]
theorem cut_done (L : List Int) (k : Nat) (P : List (Nat × Nat)) (f : Nat) (d : Int) (h : cutP L k = (P, f, d)) (s : Int) (hs : stp (L.getD k 0) = s) (hz : d + s = 0) : cutP L (k + 1) = (P ++ [(f, k + 1)], k + 1, 0) := by
  rw [cutP, h, hs, if_pos hz]
end Go.Proofs.Ytbibmncepjmgcaa
namespace Go.Proofs.Ytbibmncepjmgcaa
open Go.RowKit Go.Lib
/-- Block g, of a number at least base, holds the numbers xs, and has room for cap; what is marked lies beyond. -/
def Byf (w : World) (base g cap : Nat) (xs : List Int) : Prop :=
  base ≤ g ∧ xs.length ≤ cap ∧ cap ≤ maxLen ∧ ∃ (cur : Array Value) (fz : Nat × Nat), w.heap[g]? = some (.cells cur 5 fz) ∧ (fz = (0, 0) ∨ cap ≤ fz.1) ∧ cur.size = cap ∧ cur.toList.take xs.length = xs.map (Value.int .u8)
theorem Byf.lt {w : World} {base g cap : Nat} {xs : List Int} (h : Byf w base g cap xs) : g < w.heap.size := by
  obtain ⟨_, _, _, cur, fz, ho, _⟩ := h; exact (Array.getElem?_eq_some_iff.1 ho).1
theorem Byf.cell {w : World} {base g cap : Nat} {xs : List Int} (h : Byf w base g cap xs) (j : Nat) (hj : j < xs.length) : w.cell? ⟨g, j, none⟩ = some (.int .u8 (xs.getD j 0)) := by
  obtain ⟨_, h2, _, cur, fz, ho, _, hs, ht⟩ := h
  have e0 : w.cell? ⟨g, j, none⟩ = cur[j]? := by simp [World.cell?, ho]
  rw [e0]
  have e : (cur.toList.take xs.length)[j]? = (xs.map (Value.int .u8))[j]? := by rw [ht]
  rw [List.getElem?_take_of_lt hj] at e
  simpa [hj] using e
theorem Byf.kept {w w' : World} {base g cap : Nat} {xs : List Int} (h : Byf w base g cap xs) (hb : w'.heap[g]? = w.heap[g]?) : Byf w' base g cap xs := by
  obtain ⟨h1, h2, h3, cur, fz, ho, r⟩ := h
  exact ⟨h1, h2, h3, cur, fz, by rw [hb]; exact ho, r⟩
theorem Byf.alloc {w : World} {base g cap : Nat} {xs : List Int} (h : Byf w base g cap xs) (o : Obj) : Byf (w.alloc o) base g cap xs :=
  h.kept (Below.heap_alloc w o g h.lt)
theorem Byf.grown {w w' : World} {base g cap b : Nat} {xs : List Int} (h : Byf w base g cap xs) (hg : w.grownBy w' (some b)) (hb : g ≠ b) : Byf w' base g cap xs :=
  h.kept (hg.block g h.lt (fun e => hb (by simpa using e)))
theorem Byf.below {w w' : World} {base g cap B : Nat} {xs : List Int} (h : Byf w base g cap xs) (hb : Below B w w') (hB : g < B) : Byf w' base g cap xs :=
  h.kept (hb.block g hB)
/-- One cell is stored where nothing is marked. -/
theorem storeCells_one (P : Program) (g o : Nat) (t : TypeId) (fz : Nat × Nat) (v : Value) (cur : Array Value) (w : World) (hg : w.heap[g]? = some (.cells cur t fz)) (hfz : fz = (0, 0) ∨ cur.size ≤ fz.1) (hl : o < cur.size) (h1 : v.oneCell' = true) :
    (storeCells ⟨g, o, none⟩ [v] 0).run P w = .ok () (w.setRow g (cur.toList.take o ++ [v] ++ cur.toList.drop (o + 1)).toArray) := by
  have hadd : (⟨g, o, none⟩ : Addr).add 0 = ⟨g, o, none⟩ := by unfold Addr.add; split <;> simp_all
  have hcell : w.cell? ⟨g, o, none⟩ = some cur[o] := by simp [World.cell?, hg, hl]
  have hfro : w.frozen? ⟨g, o, none⟩ = false := by
    obtain ⟨lo, hi'⟩ := fz
    simp only [World.frozen?, hg, Bool.and_eq_false_iff, decide_eq_false_iff_not]
    rcases hfz with e | e
    · simp only [Prod.mk.injEq] at e; right; omega
    · left; simp only at e; omega
  have hst : (store ((⟨g, o, none⟩ : Addr).add 0) v).run P w = .ok () (w.setRow g (cur.setIfInBounds o v)) := by
    rw [hadd, run_store P w _ v _ h1, hcell]
    simp [hfro, setCell_eq_setRow w g o cur t fz v hg]
  simp only [storeCells, Sem.run_bind, hst, Result.andThen_ok, Sem.run_pure]
  congr 3
  refine Array.toList_inj.1 (List.ext_getElem? fun i => ?_)
  simp only [Array.toList_setIfInBounds]
  rw [List.getElem?_set]
  have hlen : (cur.toList.take o).length = o := by simp; omega
  by_cases e : o = i
  · subst e
    rw [if_pos rfl, if_pos (by simpa using hl), List.append_assoc, List.getElem?_append_right (by omega), hlen]; simp
  · rw [if_neg e]
    by_cases c : i < o
    · rw [List.append_assoc, List.getElem?_append_left (by omega), List.getElem?_take_of_lt c]
    · rw [List.append_assoc, List.getElem?_append_right (by omega), hlen]
      have : i - o = (i - o - 1) + 1 := by omega
      rw [this, List.singleton_append, List.getElem?_cons_succ, List.getElem?_drop]
      congr 1; omega
theorem run_append_byf (w : World) (ty : TypeId) (base g cap : Nat) (xs : List Int) (y : Int) (hi : Byf w base g cap xs) (ad : Addr) (c : Nat)
    (hy : w.cell? ad = some (.int .u8 y)) (hl : xs.length < 4194304) (hbase : base ≤ w.heap.size) :
    ∃ v' w', (Builtin.append_ #[99, 99] ty #[bval g cap xs, .slice (some ad) 1 c]).run Try.prog w = .ok v' w' ∧ (∃ g' cap', v' = bval g' cap' (xs ++ [y]) ∧ Byf w' base g' cap' (xs ++ [y])) ∧ w.grownBy w' (some g) := by
  obtain ⟨i0, hi0, hz0, hz1, hz2⟩ := info_parts info8
  obtain ⟨h1, h2, h3, cur, fz, ho, hfz, hs, ht⟩ := hi
  have hnews : ∀ j u, ([Value.int .u8 y] : List Value)[j]? = some u → w.cell? (ad.add j) = some u := by
    intro j u hj
    match j, hj with
    | 0, hj =>
      simp at hj; subst hj
      have e : ad.add 0 = ad := by unfold Addr.add; split <;> simp_all
      rw [e]; exact hy
    | j + 1, hj => simp at hj
  have hu := Try.underlying99
  by_cases hroom : xs.length + 1 ≤ cap
  · have hf := run_firstCells_some (P := Try.prog) w i0.size 1 ad 1 c [.int .u8 y] (by rw [hz1]; rfl) hnews
    have hst := storeCells_one Try.prog g (xs.length * i0.size) 5 fz (.int .u8 y) cur w ho (by rw [hs]; exact hfz) (by rw [hz1]; omega) rfl
    have hr : (Builtin.append_ #[99, 99] ty #[bval g cap xs, .slice (some ad) 1 c]).run Try.prog w =
        .ok (.slice (some ⟨g, 0, none⟩) (xs.length + 1) cap) (w.setRow g (cur.toList.take (xs.length * i0.size) ++ [Value.int .u8 y] ++ cur.toList.drop (xs.length * i0.size + 1)).toArray) := by
      simp [bval, Builtin.append_, run_underlying hu, sizeOf, typeInfo, hi0, Builtin.lenOf, hroom, hf, Addr.add_lit, hst]
    rw [hz1, Nat.mul_one] at hr
    refine ⟨_, _, hr, ⟨g, cap, by simp [bval], h1, by simpa using hroom, h3, _, fz, setRow_heap w g cur _ _ _ ho, hfz, ?_, ?_⟩, ⟨rfl, rfl, rfl, by simp, fun k _ hk => setRow_other w g k _ (fun e => hk (by simp [e]))⟩⟩
    · simp only [List.size_toArray, List.length_append, List.length_take, List.length_drop, Array.length_toList, List.length_cons, List.length_nil]
      omega
    · rw [ht]
      have e : (xs ++ [y]).length = (xs.map (Value.int .u8) ++ [Value.int .u8 y]).length := by simp
      simp only [e, List.map_append, List.map_cons, List.map_nil]
      exact List.take_left
  · have holds : ∀ j u, (xs.map (Value.int .u8))[j]? = some u → w.cell? ((⟨g, 0, none⟩ : Addr).add j) = some u := by
      intro j u hu
      have hadd : (⟨g, 0, none⟩ : Addr).add j = ⟨g, j, none⟩ := by unfold Addr.add; split <;> simp_all
      have hj : j < xs.length := by
        have := (List.getElem?_eq_some_iff.1 hu).1; simpa using this
      rw [hadd, Byf.cell ⟨h1, h2, h3, cur, fz, ho, hfz, hs, ht⟩ j hj]
      simpa [hj] using hu
    have hr := run_append_grow (P := Try.prog) w 99 ty 5 i0 (.int .u8 0) hu hi0 hz0 ⟨g, 0, none⟩ xs.length cap (xs.map (Value.int .u8)) (by rw [hz1]; simp) holds ad 1 c [.int .u8 y] (by rw [hz1]; rfl) hnews (by omega) (by omega) (by rw [hz2]; exact growslice_fits (by omega) (by omega))
    have hge := grownCap_ge w (xs.length + 1) cap 5
    have hcm2 : grownCap w (xs.length + 1) cap 5 ≤ maxLen := grownCap_le_maxLen w (xs.length + 1) cap 5 (by unfold maxLen; omega)
    refine ⟨_, _, hr, ⟨w.heap.size, grownCap w (xs.length + 1) cap 5, by simp [bval], hbase, by simpa using hge, hcm2, _, (0, 0), heap_alloc_new w.drew _, .inl rfl, ?_, ?_⟩, ⟨rfl, rfl, rfl, by simp, fun k hk _ => Below.heap_alloc w.drew _ k hk⟩⟩
    · have hz : (Value.int .u8 0).cells.size = 1 := rfl
      simp only [Array.size_append, List.size_toArray, size_zeroCells, hz, List.length_map, List.length_cons, List.length_nil]
      omega
    · have e : (xs ++ [y]).length = (xs.map (Value.int .u8) ++ [Value.int .u8 y]).length := by simp
      simp only [Array.toList_append, e, List.map_append, List.map_cons, List.map_nil]
      exact List.take_left
/-- One byte is appended. -/
theorem wpList_append_byf {ops : Array Oper} {rest : List Oper} {o : Oper} {a : Act} {w : World} {Q : Exit → Act → World → Prop} (hgd : o.guard = none) (s x : Operand)
    (ho : o.op = .call { callee := .builtin .append, args := #[s, x], argTypes := #[99, 99] })
    (base g cap : Nat) (xs : List Int) (y : Int) (hs : a.eval s = bval g cap xs) (hi : Byf w base g cap xs) (ad : Addr) (c : Nat)
    (hx : a.eval x = .slice (some ad) 1 c) (hy : w.cell? ad = some (.int .u8 y)) (hl : xs.length < 4194304) (hbase : base ≤ w.heap.size)
    (h : ∀ g' cap' w', Byf w' base g' cap' (xs ++ [y]) → w.grownBy w' (some g) → wpList Try.prog ops Q rest (a.put o.dst (bval g' cap' (xs ++ [y]))) w') : wpList Try.prog ops Q (o :: rest) a w := by
  refine wpList_plain hgd fun K hK => ?_
  obtain ⟨v', w', hr, ⟨g', cap', rfl, hB⟩, hG⟩ := run_append_byf w o.type base g cap xs y hi ad c hy hl hbase
  unfold Oper.wp execOp
  simp only [ho, resolve, invoke, builtin, Sem.run_bind, Sem.run_pure, Result.andThen_ok, List.map_toArray, List.map_cons, List.map_nil, hs, hx, hr]
  exact hK _ _ (h g' cap' w' hB hG)
/-- The bytes of a text as numbers. -/
def LI (l : List UInt8) : List Int := l.map fun c => ((c.toNat : Nat) : Int)
theorem LI_len (l : List UInt8) : (LI l).length = l.length := by simp [LI]
theorem LI_str (l : List UInt8) : strOfNums (LI l) = ⟨l.toArray⟩ := by
  unfold strOfNums LI
  congr 2
  rw [List.map_map]
  conv => rhs; rw [← List.map_id l]
  apply List.map_congr_left
  intro c _
  simp
/-- Behind a conversion of a text. -/
theorem Byf.conv (w : World) (base : Nat) (s : ByteArray) (hb : base ≤ w.heap.size) (hs : s.size ≤ 4194304) : Byf (bytesWorld w 5 s) base w.heap.size (grownCap w s.size 0 5) (LI s.data.toList) := by
  have hge := grownCap_ge w s.size 0 5
  have hcm2 : grownCap w s.size 0 5 ≤ maxLen := grownCap_le_maxLen w s.size 0 5 (by unfold maxLen; omega)
  have hsz : (bytesCells w 5 s).size = grownCap w s.size 0 5 := by
    unfold bytesCells
    have : s.data.size = s.size := rfl
    simp [this]; omega
  refine ⟨hb, by rw [LI_len, Array.length_toList]; exact hge, hcm2, _, _, bytesWorld_at_new w _ s, .inr (by rw [hsz]; exact Nat.le_refl _), hsz, ?_⟩
  have e : (LI s.data.toList).length = (s.data.toList.map fun b => Value.int .u8 b.toNat).length := by simp [LI]
  rw [e]
  unfold bytesCells
  rw [Array.toList_append]
  have e2 : (s.data.map fun b => Value.int .u8 b.toNat).toList = s.data.toList.map fun b => Value.int .u8 b.toNat := by simp
  rw [e2, List.take_left]
  simp [LI]
theorem below_conv (w : World) (B : Nat) (s : ByteArray) (hB : B ≤ w.heap.size) : Below B w (bytesWorld w 5 s) :=
  ⟨rfl, rfl, rfl, by rw [bytesWorld_size]; omega, fun k hk => bytesWorld_at_old w _ s k (by omega)⟩
end Go.Proofs.Ytbibmncepjmgcaa
namespace Go.Proofs.Ytbibmncepjmgcaa
open Go.RowKit
set_option linter.unusedVariables false
def scells (xs : List Int) (sp : List Value) : Array Value := (xs.map (Value.int .i64) ++ sp).toArray
theorem scells_get (xs : List Int) (sp : List Value) (j : Nat) (h : j < xs.length) : (scells xs sp)[j]? = some (.int .i64 (xs.getD j 0)) := by
  unfold scells
  rw [List.getElem?_toArray, List.getElem?_append_left (by simpa using h)]
  simp [h]
theorem scells_set (xs : List Int) (sp : List Value) (j : Nat) (x : Int) (h : j < xs.length) : (scells xs sp).setIfInBounds j (.int .i64 x) = scells (xs.set j x) sp := by
  unfold scells
  apply Array.toList_inj.1
  simp only [Array.toList_setIfInBounds]
  rw [List.set_append_left _ _ (by simpa using h), List.map_set]
/-- A slice of numbers in memory of a call's own, at a block of a number at least B. -/
def Mn (w : World) (B : Nat) (p : Option Addr) (xs : List Int) : Prop :=
  (p = none ∧ xs = []) ∨ ∃ (g : Nat) (sp : List Value), p = some ⟨g, 0, none⟩ ∧ B ≤ g ∧ Own w g (scells xs sp) 2
theorem Mn.rd {w : World} {B : Nat} {p : Option Addr} {xs : List Int} (h : Mn w B p xs) : Rd w p xs := by
  rcases h with ⟨rfl, rfl⟩ | ⟨g, sp, rfl, hb, ho⟩
  · exact ⟨fun a e => (by cases e), fun _ => rfl⟩
  · refine ⟨fun a e j hj => ?_, fun e => by cases e⟩
    cases e
    have : (⟨g, 0, none⟩ : Addr).add j = ⟨g, j, none⟩ := by rw [Addr.add_mid, Nat.zero_add]
    rw [this, ho.cell, scells_get _ _ _ hj]
theorem Mn.below {w w' : World} {B B' : Nat} {p : Option Addr} {xs : List Int} (h : Mn w B p xs) (hb : Below B' w w') (hs : w.heap.size ≤ B') : Mn w' B p xs := by
  rcases h with h | ⟨g, sp, rfl, hg, ho⟩
  · exact .inl h
  · exact .inr ⟨g, sp, rfl, hg, ho.below hb (Nat.lt_of_lt_of_le ho.lt hs)⟩
theorem Mn.weak {w : World} {B B' : Nat} {p : Option Addr} {xs : List Int} (h : Mn w B p xs) (hb : B' ≤ B) : Mn w B' p xs := by
  rcases h with h | ⟨g, sp, rfl, hg, ho⟩
  · exact .inl h
  · exact .inr ⟨g, sp, rfl, Nat.le_trans hb hg, ho⟩
theorem Mn.new {w : World} {B g : Nat} {xs : List Int} (hb : B ≤ g) (h : Own w g (icells xs) 2) : Mn w B (some ⟨g, 0, none⟩) xs :=
  .inr ⟨g, [], rfl, hb, by rw [scells, List.append_nil]; exact h⟩
theorem Mn.ints {w : World} {B base g cap : Nat} {xs : List Int} (hb : B ≤ base) (h : Ints w base g cap xs) : Mn w B (some ⟨g, 0, none⟩) xs := by
  obtain ⟨h1, h2, h3, cur, ho, hs, ht⟩ := h
  refine .inr ⟨g, cur.toList.drop xs.length, rfl, Nat.le_trans hb h1, ?_⟩
  have : scells xs (cur.toList.drop xs.length) = cur := by
    unfold scells
    rw [← ht, List.take_append_drop]
  rw [this]; exact ho
theorem Mn.nil (w : World) (B : Nat) : Mn w B none [] := .inl ⟨rfl, rfl⟩
/-- A list of numbers that the call has made, and a code. -/
def ResI (xs : List Int) (c : Int) (w : World) (e : Ending) (w' : World) : Prop :=
  ∃ (p : Option Addr) (cap : Nat), e = .returned (.tuple #[.slice p xs.length cap, .int .i64 c]) ∧ Mn w' w.heap.size p xs ∧ Below w.heap.size w w'
theorem Mn.ne {w : World} {B b : Nat} {p : Option Addr} {xs : List Int} (h : Mn w B p xs) (hb : b < B) {a : Addr} (e : some (⟨b, 0, none⟩ : Addr) = some a) : p ≠ some a := by
  rintro rfl
  rcases h with ⟨h, _⟩ | ⟨g, sp, h, hg, _⟩
  · cases h
  · rw [← e] at h
    injection h with h
    injection h with h
    omega
theorem Mn.base {w w' : World} {B B' : Nat} {p : Option Addr} {xs ys : List Int} (h : Mn w' B' p xs) (h' : Mn w B p ys) : Mn w' B p xs := by
  rcases h with h | ⟨g, sp, rfl, hg, ho⟩
  · exact .inl h
  · rcases h' with ⟨h1, _⟩ | ⟨g', sp', h1, hg', _⟩
    · cases h1
    · injection h1 with h1
      injection h1 with h1
      exact .inr ⟨g, sp, rfl, by omega, ho⟩
/-- The numbers k, k + 1, .. -/
def marksI (k : Int) (n : Nat) : List Int := (List.range n).map fun (j : Nat) => k + (j : Int)
theorem marksI_len (k : Int) (n : Nat) : (marksI k n).length = n := by simp [marksI]
theorem marksI_get (k : Int) (n j : Nat) (h : j < n) : (marksI k n).getD j 0 = k + j := by
  rw [List.getD_eq_getElem?_getD]; simp [marksI, h]
/-- The first j are marks. -/
def mkI (k : Int) (xs : List Int) (j : Nat) : List Int := marksI k j ++ xs.drop j
theorem mkI_len (k : Int) (xs : List Int) (j : Nat) (h : j ≤ xs.length) : (mkI k xs j).length = xs.length := by simp [mkI, marksI]; omega
theorem mkI_set (k : Int) (xs : List Int) (j : Nat) (h : j < xs.length) : (mkI k xs j).set j (k + j) = mkI k xs (j + 1) := by
  unfold mkI
  rw [List.set_append_right _ _ (by rw [marksI_len]; exact Nat.le_refl _), marksI_len, Nat.sub_self, List.drop_eq_getElem_cons h, List.set_cons_zero]
  unfold marksI
  rw [List.range_succ, List.map_append]
  simp
theorem mkI_end (k : Int) (xs : List Int) : mkI k xs xs.length = marksI k xs.length := by simp [mkI]
theorem Mn.only {w w' : World} {B g : Nat} {q : Option Addr} {ys : List Int} (h : Mn w B q ys) (ho : Only g w w') (hne : q ≠ some ⟨g, 0, none⟩) : Mn w' B q ys := by
  rcases h with h | ⟨g', sp, rfl, hb, hh⟩
  · exact .inl h
  · exact .inr ⟨g', sp, rfl, hb, hh.only ho (fun e => hne (by rw [e]))⟩
set_option maxRecDepth 100000 in
set_option maxHeartbeats 1000000 in
theorem mark_all (B : Nat) (p : Option Addr) (cap : Nat) (xs : List Int) (hx : xs.length ≤ 1048576) (k : Int) (k0 : 0 ≤ k) (k2 : k ≤ 4194304) (w : World) (hM : Mn w B p xs) (hB : B ≤ w.heap.size) :
    Calls Try.prog 18 #[.slice p xs.length cap, .int .i64 k] w fun e w' => e = .returned (.int .i64 (k + xs.length)) ∧ Mn w' B p (marksI k xs.length) ∧ Below B w w' ∧ (∀ q ys, Mn w B q ys → (∀ a, p = some a → q ≠ some a) → Mn w' B q ys) := by
  rcases hM with ⟨rfl, rfl⟩ | ⟨g, sp, rfl, hg, ho⟩
  · go_enter Try.func18, Try.ntmps18
    go_wp2
    go_loopw [1, 5] (fun q i wr => i = .int .i64 0 ∧ q = .int .i64 k ∧ wr = w) (fun _ i _ => 0)
    case atStart => exact ⟨rfl, rfl, rfl⟩
    case round =>
      obtain ⟨rfl, rfl, rfl⟩ := hrel
      go_wp2
      go_ret
      exact ⟨by simp, Mn.nil _ _, Below.refl _ _, fun q ys h _ => h⟩
  · obtain ⟨m, hm⟩ : ∃ m, xs.length = m := ⟨_, rfl⟩
    have hN := Lib.hid hm
    have h0 := Lib.hid (show scells xs sp = scells (mkI k xs 0) sp by simp [mkI, marksI])
    rw [hm] at hx ⊢
    clear hm
    go_enter Try.func18, Try.ntmps18
    go_wp2
    go_loopw [1, 5] (fun q i wr => ∃ j : Nat, j ≤ m ∧ i = .int .i64 j ∧ q = .int .i64 (k + j) ∧ Own wr g (scells (mkI k xs j) sp) 2 ∧ Only g w wr) (fun _ i _ => ((m : Int) - intOf i).toNat)
    case atStart => exact ⟨0, by omega, rfl, by simp, by rw [← h0.out]; exact ho, Only.refl _ _⟩
    case round =>
      obtain ⟨j, hj, rfl, rfl, hO, hBB⟩ := hrel
      have hll := mkI_len k xs j (by rw [hN.out]; exact hj)
      by_cases hlt : j < m
      · have hks : j < xs.length := by have := hN.out; omega
        have c2 := hO.cell j
        rw [scells_get _ _ _ (by omega)] at c2
        have f2 := hO.free j
        have hO2 := hO.set j (.int .i64 (k + j))
        rw [scells_set _ _ _ _ (by omega), mkI_set _ _ _ hks] at hO2
        have hB2 := hBB.trans (Only.set g j _ (.int .i64 (k + j)))
        have K1 := Lib.hid hO2
        have i1 : (j : Int) < (m : Int) := by omega
        clear hO2 hll
        go_wp2
        go_roundw
        case rel => exact ⟨j + 1, by omega, by go_num, by go_num, K1.out, hB2⟩
        case measure => simp [intOf]; omega
      · have hk2 : j = m := by omega
        subst hk2
        have e : mkI k xs j = marksI k j := by rw [← hN.out]; exact mkI_end k xs
        rw [e] at hO
        clear e hll
        go_wp2
        go_ret
        exact ⟨rfl, .inr ⟨g, sp, rfl, hg, hO⟩, hBB.below.mono hg, fun q ys h hne => h.only hBB (fun e => hne _ rfl e)⟩
theorem mark_any (B : Nat) (p : Option Addr) (cap : Nat) (xs : List Int) (hx : xs.length ≤ 1048576) (k : Int) (k0 : 0 ≤ k) (k2 : k ≤ 4194304) (w : World) (hM : Mn w B p xs) (hB : B ≤ w.heap.size) :
    Calls Try.prog 18 #[.slice p xs.length cap, .int .i64 k] w fun e w' => e = .returned (.int .i64 (k + xs.length)) ∧ Mn w' B p (marksI k xs.length) ∧ Below B w w' :=
  (mark_all B p cap xs hx k k0 k2 w hM hB).mono fun e w' h => ⟨h.1, h.2.1, h.2.2.1⟩
end Go.Proofs.Ytbibmncepjmgcaa
namespace Go.Proofs.Ytbibmncepjmgcaa
open Go.RowKit Go.Lib
set_option linter.unusedVariables false
set_option linter.unusedSimpArgs false
/-- Where the first k parts end. -/
def pend (P : List (Nat × Nat)) (k : Nat) : Nat := if k = 0 then 0 else (P.getD (k - 1) (0, 0)).2
theorem getD_app {α : Type} (l : List α) (x d : α) (j : Nat) (h : j < l.length) : (l ++ [x]).getD j d = l.getD j d := by
  rw [List.getD_eq_getElem?_getD, List.getD_eq_getElem?_getD, List.getElem?_append_left h]
theorem getD_last {α : Type} (l : List α) (x d : α) : (l ++ [x]).getD l.length d = x := by
  rw [List.getD_eq_getElem?_getD, List.getElem?_append_right (Nat.le_refl _), Nat.sub_self]; rfl
theorem pend_app (P : List (Nat × Nat)) (x : Nat × Nat) (k : Nat) (h : k ≤ P.length) : pend (P ++ [x]) k = pend P k := by
  unfold pend
  by_cases e : k = 0
  · rw [if_pos e, if_pos e]
  · rw [if_neg e, if_neg e, getD_app _ _ _ _ (by omega)]
theorem cut_contig (L : List Int) (k : Nat) : (∀ j, j < (cutP L k).1.length → ((cutP L k).1.getD j (0, 0)).1 = pend (cutP L k).1 j) ∧ (cutP L k).2.1 = pend (cutP L k).1 (cutP L k).1.length := by
  induction k with
  | zero => exact ⟨fun j hj => by simp [cutP] at hj, rfl⟩
  | succ k ih =>
    obtain ⟨h1, h2⟩ := ih
    rw [cutP]
    split
    · refine ⟨fun j hj => ?_, ?_⟩
      · simp only at hj ⊢
        rw [List.length_append, List.length_singleton] at hj
        rw [pend_app _ _ _ (by omega)]
        by_cases e : j < (cutP L k).1.length
        · rw [getD_app _ _ _ _ e]; exact h1 j e
        · have : j = (cutP L k).1.length := by omega
          subst this
          rw [getD_last]; exact h2
      · simp only
        rw [List.length_append, List.length_singleton]
        unfold pend
        rw [if_neg (by omega), Nat.add_sub_cancel, getD_last]
    · exact ⟨h1, h2⟩
theorem pend_succ (P : List (Nat × Nat)) (k : Nat) : pend P (k + 1) = (P.getD k (0, 0)).2 := rfl
theorem cut_part (L : List Int) (N k : Nat) (h : k < (cutP L N).1.length) : ∃ f e, (cutP L N).1[k]? = some (f, e) ∧ f < e ∧ e ≤ N ∧ f = pend (cutP L N).1 k ∧ e = pend (cutP L N).1 (k + 1) := by
  obtain ⟨q, hq⟩ : ∃ q, (cutP L N).1[k]? = some q := ⟨_, List.getElem?_eq_getElem h⟩
  have hd : (cutP L N).1.getD k (0, 0) = q := by rw [List.getD_eq_getElem?_getD, hq]; rfl
  have h1 := (cut_contig L N).1 k h
  have h2 := pend_succ (cutP L N).1 k
  rw [hd] at h1 h2
  have hb := (cutP_bd L N).2.2.2.2 q (List.mem_of_getElem? hq)
  exact ⟨q.1, q.2, hq, hb.1, hb.2, h1, h2.symm⟩
theorem pend_le (L : List Int) (N k : Nat) (h : k ≤ (cutP L N).1.length) : pend (cutP L N).1 k ≤ N := by
  unfold pend
  by_cases e : k = 0
  · rw [if_pos e]; omega
  · rw [if_neg e]
    obtain ⟨q, hq⟩ : ∃ q, (cutP L N).1[k - 1]? = some q := ⟨_, List.getElem?_eq_getElem (by omega)⟩
    rw [List.getD_eq_getElem?_getD, hq]
    exact ((cutP_bd L N).2.2.2.2 q (List.mem_of_getElem? hq)).2
/-- The points of lines that are open to the left. -/
def opl (n : Int) (ms : List Int) : List Int := (starts n ms (2 * n).toNat).map (fun s : Nat => pl n (s : Int))
/-- Letters of a diagram. -/
def LT (n : Int) (ms : List Int) : List Int := LI (textS n ms).data.toList
theorem LT_len (n : Int) (ms : List Int) (h : 0 ≤ n) : (LT n ms).length = (2 * n).toNat := by
  unfold LT; rw [LI_len]; have := text_len n ms h; omega
theorem LT_get (n : Int) (ms : List Int) (k : Nat) (h : (k : Int) < 2 * n) : (LT n ms).getD k 0 = if (k : Int) < qq n ms k then 40 else 41 := by
  unfold LT LI
  rw [List.getD_eq_getElem?_getD, List.getElem?_map, text_get n ms k h]
  split <;> rfl
theorem LT_lett (n : Int) (ms : List Int) : Lett n ms (LT n ms) := by
  intro k hk
  rw [LT_get n ms k hk]
  split <;> decide
theorem LI_bytes (l : List UInt8) : Bytes (LI l) := by
  intro x hx
  unfold LI at hx
  rw [List.mem_map] at hx
  obtain ⟨c, _, rfl⟩ := hx
  have := c.toNat_lt
  omega
theorem cut_LT {n : Int} {ms : List Int} (h : Net n ms) : (cutP (LT n ms) (2 * n).toNat).1 = (starts n ms (2 * n).toNat).map (prt n ms) := cut_all h _ (LT_lett n ms)
theorem opl_cut {n : Int} {ms : List Int} (h : Net n ms) : (cutP (LT n ms) (2 * n).toNat).1.map (fun q => pl n (q.1 : Int)) = opl n ms := by
  rw [cut_LT h, List.map_map]
  rfl
theorem RdL.of_byf {w : World} {base g cap : Nat} {xs : List Int} (h : Byf w base g cap xs) : RdL w g xs := ⟨h.lt, fun j hj => h.cell j hj⟩
theorem net_of (n : Int) (ms : List Int) (hms : ms.length = 16) (hb : Bytes ms) (hd : isD n ms = true) : Net n ms := Net.of hb ((isD_iff n ms hms hb).1 hd)

theorem mk0i : ∀ w : World, (Instr.buildSlice 34 0 #[]).run Try.prog w = .ok (.slice (some ⟨w.heap.size, 0, none⟩) 0 0) (w.alloc (.cells #[] 2)) := by
  intro w; kernel_rfl
def OplPost (xs : List Int) (w : World) (e : Ending) (w' : World) : Prop :=
  ∃ g cap, e = .returned (.slice (some ⟨g, 0, none⟩) xs.length cap) ∧ Mn w' w.heap.size (some ⟨g, 0, none⟩) xs ∧ Below w.heap.size w w'
end Go.Proofs.Ytbibmncepjmgcaa
namespace Go.Proofs.Ytbibmncepjmgcaa
open Go.RowKit
set_option linter.unusedVariables false
theorem pst_two (n : Int) (l : List UInt8) (k : Nat) (ms o : List Int) (h : pst n l (k + 1) = some (ms, o)) : l[k]? = some 40 ∨ l[k]? = some 41 := by
  unfold pst at h
  cases hp : pst n l k with
  | none => rw [hp] at h; simp at h
  | some q =>
    obtain ⟨M', o'⟩ := q
    rw [hp] at h
    simp only at h
    split at h
    · left; assumption
    · split at h
      · right; assumption
      · simp at h
theorem parse_pst (l : List UInt8) (n : Int) (ms : List Int) (h : parse l = some (n, ms)) : pst n l l.length = some (ms, []) ∧ (l.length : Int) = 2 * n ∧ 1 ≤ n ∧ n ≤ 8 := by
  unfold parse at h
  split at h
  · rename_i hb
    split at h
    · rename_i M hp
      simp at h; obtain ⟨e, rfl⟩ := h
      rw [e] at hp hb
      exact ⟨hp, by omega, hb.2.1, hb.2.2⟩
    · simp at h
  · simp at h
theorem pst_some_le (n : Int) (l : List UInt8) (k m : Nat) (hk : k ≤ m) (h : pst n l m ≠ none) : ∃ ms o, pst n l k = some (ms, o) := by
  cases hp : pst n l k with
  | none => exact (h (pst_none_le n l k m hp hk)).elim
  | some q => exact ⟨q.1, q.2, rfl⟩
theorem parse_letters (l : List UInt8) (n : Int) (ms : List Int) (h : parse l = some (n, ms)) (k : Nat) (hk : k < l.length) : l[k]? = some 40 ∨ l[k]? = some 41 := by
  obtain ⟨h1, _⟩ := parse_pst l n ms h
  obtain ⟨M, o, hM⟩ := pst_some_le n l (k + 1) l.length hk (by rw [h1]; simp)
  exact pst_two n l k M o hM
theorem pst_text (n : Int) (l : List UInt8) (h8 : n ≤ 8) (k : Nat) (hk : (k : Int) ≤ 2 * n) (M o : List Int) (h : pst n l k = some (M, o)) :
    ∀ p : Nat, p < k → ((p : Int) ∈ o → l[p]? = some 40) ∧ ((p : Int) ∉ o → l[p]? = some (if (p : Int) < qq n M p then 40 else 41)) := by
  induction k generalizing M o with
  | zero => intro p hp; omega
  | succ k ih =>
    have hI := pst_inv n l h8 (k + 1) hk M o h
    unfold pst at h
    cases hp : pst n l k with
    | none => rw [hp] at h; simp at h
    | some q =>
      obtain ⟨M', o'⟩ := q
      have hI' := pst_inv n l h8 k (by omega) M' o' hp
      have ih' := ih (by omega) M' o' hp
      rw [hp] at h
      simp only at h
      split at h
      · rename_i hc
        simp at h; obtain ⟨rfl, rfl⟩ := h
        intro p hpk
        by_cases e : p = k
        · subst e
          exact ⟨fun _ => hc, fun hn => (hn (by simp)).elim⟩
        · have hm : (p : Int) ∈ o' ++ [(k : Int)] ↔ (p : Int) ∈ o' := by
            rw [List.mem_append, List.mem_singleton]
            constructor
            · rintro (h | h)
              · exact h
              · omega
            · exact .inl
          rw [hm]
          exact ih' p (by omega)
      · split at h
        · rename_i hc
          rcases List.eq_nil_or_concat o' with e | ⟨ys, y, e⟩
          · subst e; simp at h
          · rw [List.concat_eq_append] at e
            subst e
            simp at h; obtain ⟨rfl, rfl⟩ := h
            have yb := hI'.obd y (by simp)
            have hs := List.pairwise_append.1 hI'.srt
            have yno : y ∉ ys := fun x => by have := hs.2.2 y x y (by simp); omega
            have kno : (k : Int) ∉ ys := fun x => by have := hs.2.2 _ x y (by simp); omega
            have hk' : (k : Int) < 2 * n := by omega
            have mj : ∀ i : Int, 0 ≤ i → mate (joinL M' (pl n y) (pl n k)) i = if i = pl n k then pl n y else if i = pl n y then pl n k else mate M' i :=
              fun i h0 => mate_join M' hI'.len h8 y k ⟨yb.1, by omega⟩ ⟨by omega, hk'⟩ i h0
            have inj : ∀ a b : Int, 0 ≤ a → a < 2 * n → 0 ≤ b → b < 2 * n → pl n a = pl n b → a = b := by
              intro a b a0 a2 b0 b2 e
              rw [← pl_pl n a a0 a2, e, pl_pl n b b0 b2]
            intro p hpk
            by_cases e1 : p = k
            · subst e1
              refine ⟨fun x => (kno x).elim, fun _ => ?_⟩
              have : qq n (joinL M' (pl n y) (pl n p)) p = y := by
                unfold qq
                rw [mj _ (pl_lt n p (by omega) hk').1, if_pos rfl, pl_pl n y yb.1 (by omega)]
              rw [this, if_neg (by omega)]; exact hc
            · by_cases e2 : (p : Int) = y
              · refine ⟨fun x => (yno (e2 ▸ x)).elim, fun _ => ?_⟩
                have : qq n (joinL M' (pl n y) (pl n k)) p = k := by
                  unfold qq
                  rw [e2, mj _ (pl_lt n y yb.1 (by omega)).1, if_neg (fun e => by have := inj y k yb.1 (by omega) (by omega) hk' e; omega), if_pos rfl, pl_pl n k (by omega) hk']
                rw [this, if_pos (by omega)]
                exact (ih' p (by omega)).1 (by rw [e2]; simp)
              · have : qq n (joinL M' (pl n y) (pl n k)) p = qq n M' p := by
                  unfold qq
                  rw [mj _ (pl_lt n p (by omega) (by omega)).1, if_neg (fun e => by have := inj p k (by omega) (by omega) (by omega) hk' e; omega), if_neg (fun e => e2 (inj p y (by omega) (by omega) yb.1 (by omega) e))]
                rw [this]
                refine ⟨fun x => (ih' p (by omega)).1 (by simp [x]), fun x => (ih' p (by omega)).2 (fun z => ?_)⟩
                rw [List.mem_append, List.mem_singleton] at z
                rcases z with z | z
                · exact x z
                · exact e2 z
        · simp at h
theorem parse_get (l : List UInt8) (n : Int) (ms : List Int) (h : parse l = some (n, ms)) (k : Nat) (hk : (k : Int) < 2 * n) : l[k]? = some (if (k : Int) < qq n ms k then 40 else 41) := by
  obtain ⟨h1, h2, _, h8⟩ := parse_pst l n ms h
  exact (pst_text n l h8 l.length (by omega) ms [] h1 k (by omega)).2 (by simp)
end Go.Proofs.Ytbibmncepjmgcaa
namespace Go.Proofs.Ytbibmncepjmgcaa
open Go.RowKit Go.Lib
set_option linter.unusedVariables false
set_option linter.unusedSimpArgs false
/-- All texts with r letters to come, while o brackets are open. -/
def dts : Nat → Nat → List UInt8 → List (List UInt8)
  | 0, _, t => [t]
  | r + 1, o, t => (if o < r + 1 then dts r (o + 1) (t ++ [40]) else []) ++ (if 0 < o then dts r (o - 1) (t ++ [41]) else [])
theorem dts_step (r o : Nat) (t : List UInt8) : dts (r + 1) o t = (if o < r + 1 then dts r (o + 1) (t ++ [40]) else []) ++ (if 0 < o then dts r (o - 1) (t ++ [41]) else []) := rfl
/-- The diagram of a text, or the zero value. -/
def pD (t : List UInt8) : DgR := match parse t with | some q => q | none => (0, zeros)
theorem pD_len (t : List UInt8) : (pD t).2.length = 16 := by
  unfold pD
  cases h : parse t with
  | none => rfl
  | some q => obtain ⟨n, ms⟩ := q; exact parse_len t n ms h
theorem pD_LD (L : List (List UInt8)) : LD16 (L.map pD) := by
  intro d hd
  rw [List.mem_map] at hd
  obtain ⟨t, _, rfl⟩ := hd
  exact pD_len t
theorem LI_app (t : List UInt8) (c : UInt8) : LI (t ++ [c]) = LI t ++ [((c.toNat : Nat) : Int)] := by simp [LI]
def ApPost (base gb N : Nat) (n : Int) (ds : List DgR) (t : List UInt8) (L : List (List UInt8)) (w : World) (e : Ending) (w' : World) : Prop :=
  ∃ v', e = .returned v' ∧ RowD w' base v' (ds ++ L.map pD) ∧ Bys w' base gb N (LI t) ∧ Below base w w'
theorem bys_ne_rowD {w : World} {base base' g cap : Nat} {xs : List Int} {v : Value} {ds : List DgR} (hb : Bys w base' g cap xs) (hr : RowD w base v ds) : ∀ k, v.ownBlock = some k → g ≠ k := by
  intro k e he
  subst he
  obtain ⟨_, _, cs, ho⟩ := hr.own g e
  obtain ⟨_, _, _, cur, hc, _⟩ := hb
  have := (show w.heap[g]? = _ from ho).symm.trans hc
  simp at this
theorem RowD.grown {w w' : World} {base g : Nat} {v : Value} {ds : List DgR} (h : RowD w base v ds) (hg : w.grownBy w' (some g)) (hne : ∀ k, v.ownBlock = some k → k ≠ g) : RowD w' base v ds :=
  h.kept (fun k e => hg.block k (h.own k e).2.1 (fun he => hne k e (by simpa using he)))
theorem Bys.grownO {w w' : World} {base g cap : Nat} {xs : List Int} {row : Option Nat} (h : Bys w base g cap xs) (hg : w.grownBy w' row) (hne : row ≠ some g) : Bys w' base g cap xs := by
  obtain ⟨h1, h2, h3, cur, ho, hs, ht⟩ := h
  exact ⟨h1, h2, h3, cur, (hg.block g (Own.lt ho) (fun e => hne e.symm)).trans ho, hs, ht⟩
theorem dts_len (n : Nat) (h1 : 1 ≤ n) (h8 : n ≤ 8) : (dts (2 * n) 0 []).length ≤ 1430 := by
  have h : n = 1 ∨ n = 2 ∨ n = 3 ∨ n = 4 ∨ n = 5 ∨ n = 6 ∨ n = 7 ∨ n = 8 := by omega
  rcases h with rfl | rfl | rfl | rfl | rfl | rfl | rfl | rfl <;> decide +kernel
theorem mk2n (n : Nat) (h1 : 1 ≤ n) (h8 : n ≤ 8) : ∀ w : World, (Instr.makeSlice 99 (.int .i64 0) (.int .i64 (2 * (n : Int)))).run Try.prog w = .ok (.slice (some ⟨w.heap.size, 0, none⟩) 0 (2 * n)) (w.alloc (.cells (mcells (List.replicate (2 * n) 0)) 5)) := by
  have h : n = 1 ∨ n = 2 ∨ n = 3 ∨ n = 4 ∨ n = 5 ∨ n = 6 ∨ n = 7 ∨ n = 8 := by omega
  rcases h with rfl | rfl | rfl | rfl | rfl | rfl | rfl | rfl <;> (intro w; kernel_rfl)
/-- All diagrams of a size, in order. -/
def allD (n : Nat) : List DgR := (dts (2 * n) 0 []).map pD
def LdPost (n : Nat) (w : World) (e : Ending) (w' : World) : Prop := ∃ v', e = .returned v' ∧ RowD w' w.heap.size v' (allD n) ∧ Below w.heap.size w w'
end Go.Proofs.Ytbibmncepjmgcaa
