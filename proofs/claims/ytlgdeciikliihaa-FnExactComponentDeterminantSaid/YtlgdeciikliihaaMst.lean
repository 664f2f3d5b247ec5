/- Slices of texts that a call hands back: as own memory, to be read; the laws' comparisons, marks and holds of them. -/
import Derived.Test.YtlgdeciikliihaaCol
import Derived.Test.YtlgdeciikliihaaMtx
import Derived.Lib.QuietBelow
import Derived.WalkSmall
import Derived.StillTailTactics
import Derived.Deep.QuietTactic
import Derived.BigQuiet
namespace Go.Proofs.Ytlgdeciikliihaa
open Go.RowKit Go.BigFrame
set_option linter.unusedVariables false
set_option linter.unusedSimpArgs false
abbrev eB : ByteArray := ByteArray.empty
/-- The texts that can be read through a slice's pointer. -/
structure SRd (w : World) (p : Option Addr) (xs : List ByteArray) : Prop where
  cell : ∀ a, p = some a → ∀ j, j < xs.length → w.cell? (a.add j) = some (.string (xs.getD j eB))
  nil : p = none → xs = []
theorem SRd.below {w w' : World} {p : Option Addr} {xs : List ByteArray} (h : SRd w p xs) (hb : Below w.heap.size w w') : SRd w' p xs := by
  refine ⟨fun a e j hj => ?_, h.nil⟩
  have hc := h.cell a e j hj
  have hlt : (a.add j).block < w.heap.size := by
    refine Decidable.byContradiction fun hn => ?_
    unfold World.cell? at hc
    rw [Array.getElem?_eq_none (by omega)] at hc
    simp at hc
  have : w'.cell? (a.add j) = w.cell? (a.add j) := by unfold World.cell?; rw [hb.block _ hlt]
  rw [this]; exact hc
def tcells (xs : List ByteArray) (sp : List Value) : Array Value := (xs.map Value.string ++ sp).toArray
theorem tcells_get (xs : List ByteArray) (sp : List Value) (j : Nat) (h : j < xs.length) : (tcells xs sp)[j]? = some (.string (xs.getD j eB)) := by
  unfold tcells
  rw [List.getElem?_toArray, List.getElem?_append_left (by simpa using h)]
  simp [h]
theorem tcells_set (xs : List ByteArray) (sp : List Value) (j : Nat) (x : ByteArray) (h : j < xs.length) : (tcells xs sp).setIfInBounds j (.string x) = tcells (xs.set j x) sp := by
  unfold tcells
  apply Array.toList_inj.1
  simp only [Array.toList_setIfInBounds]
  rw [List.set_append_left _ _ (by simpa using h), List.map_set]
/-- A slice of texts in memory of a call's own, at a block of a number at least B. -/
def TMn (w : World) (B : Nat) (p : Option Addr) (xs : List ByteArray) : Prop :=
  (p = none ∧ xs = []) ∨ ∃ (g : Nat) (sp : List Value), p = some ⟨g, 0, none⟩ ∧ B ≤ g ∧ Own w g (tcells xs sp) 9
theorem TMn.rd {w : World} {B : Nat} {p : Option Addr} {xs : List ByteArray} (h : TMn w B p xs) : SRd w p xs := by
  rcases h with ⟨rfl, rfl⟩ | ⟨g, sp, rfl, hb, ho⟩
  · exact ⟨fun a e => (by cases e), fun _ => rfl⟩
  · refine ⟨fun a e j hj => ?_, fun e => by cases e⟩
    cases e
    have : (⟨g, 0, none⟩ : Addr).add j = ⟨g, j, none⟩ := by rw [Addr.add_mid, Nat.zero_add]
    rw [this, ho.cell, tcells_get _ _ _ hj]
theorem TMn.below {w w' : World} {B B' : Nat} {p : Option Addr} {xs : List ByteArray} (h : TMn w B p xs) (hb : Below B' w w') (hs : w.heap.size ≤ B') : TMn w' B p xs := by
  rcases h with h | ⟨g, sp, rfl, hg, ho⟩
  · exact .inl h
  · exact .inr ⟨g, sp, rfl, hg, ho.below hb (Nat.lt_of_lt_of_le ho.lt hs)⟩
theorem TMn.nil (w : World) (B : Nat) : TMn w B none [] := .inl ⟨rfl, rfl⟩
theorem tcells_of (cur : Array Value) (xs : List ByteArray) (ht : cur.toList.take xs.length = xs.map Value.string) : tcells xs (cur.toList.drop xs.length) = cur := by
  unfold tcells
  rw [← ht, List.take_append_drop]
theorem TMn.strs {w : World} {B base g cap : Nat} {xs : List ByteArray} (hb : B ≤ base) (h : Strs w base g cap xs) : TMn w B (some ⟨g, 0, none⟩) xs := by
  obtain ⟨h1, h2, h3, cur, ho, hs, ht⟩ := h
  exact .inr ⟨g, cur.toList.drop xs.length, rfl, Nat.le_trans hb h1, by rw [tcells_of _ _ ht]; exact ho⟩
theorem bsl_len (L : List (List UInt8)) : (bsl L).length = L.length := by simp [bsl]
theorem hval_map (L : List (List UInt8)) : L.map hval = (bsl L).map Value.string := by simp [bsl, bsv, hval]
theorem Col.tmn {w : World} {base : Nat} {v : Value} {L : List (List UInt8)} (h : Col w base v L) : ∃ p cap, v = .slice p L.length cap ∧ TMn w base p (bsl L) := by
  obtain ⟨h1, ⟨rfl, h0⟩ | ⟨g, cap, cur, rfl, hg, hh, hn, hcap, hsz, htake⟩⟩ := h
  · have h0' : L.length = 0 := h0
    have : L = [] := List.length_eq_zero_iff.1 h0'
    subst this
    exact ⟨none, 0, rfl, TMn.nil _ _⟩
  · have ht : cur.toList.take (bsl L).length = (bsl L).map Value.string := by
      rw [← hval_map, bsl_len]; simpa using htake
    exact ⟨some ⟨g, 0, none⟩, cap, rfl, .inr ⟨g, cur.toList.drop (bsl L).length, rfl, hg, by rw [tcells_of _ _ ht]; exact hh⟩⟩
/-- A list of texts that the call has made, and a code. -/
def ResT (xs : List ByteArray) (c : Int) (w : World) (e : Ending) (w' : World) : Prop :=
  ∃ (p : Option Addr) (cap : Nat), e = .returned (.tuple #[.slice p xs.length cap, .int .i64 c]) ∧ TMn w' w.heap.size p xs ∧ Below w.heap.size w w'
/-- The marks k, k + 1, .. -/
def marksT (k : Nat) (n : Nat) : List ByteArray := (List.range n).map fun (j : Nat) => mtx (k + j)
theorem marksT_len (k : Nat) (n : Nat) : (marksT k n).length = n := by simp [marksT]
theorem marksT_get (k : Nat) (n j : Nat) (h : j < n) : (marksT k n).getD j eB = mtx (k + j) := by
  rw [List.getD_eq_getElem?_getD]; simp [marksT, h]
def mkT (k : Nat) (xs : List ByteArray) (j : Nat) : List ByteArray := marksT k j ++ xs.drop j
theorem mkT_len (k : Nat) (xs : List ByteArray) (j : Nat) (h : j ≤ xs.length) : (mkT k xs j).length = xs.length := by simp [mkT, marksT]; omega
theorem mkT_set (k : Nat) (xs : List ByteArray) (j : Nat) (h : j < xs.length) : (mkT k xs j).set j (mtx (k + j)) = mkT k xs (j + 1) := by
  unfold mkT
  rw [List.set_append_right _ _ (by rw [marksT_len]; exact Nat.le_refl _), marksT_len, Nat.sub_self, List.drop_eq_getElem_cons h, List.set_cons_zero]
  unfold marksT
  rw [List.range_succ, List.map_append]
  simp
theorem mkT_end (k : Nat) (xs : List ByteArray) : mkT k xs xs.length = marksT k xs.length := by simp [mkT]
end Go.Proofs.Ytlgdeciikliihaa
