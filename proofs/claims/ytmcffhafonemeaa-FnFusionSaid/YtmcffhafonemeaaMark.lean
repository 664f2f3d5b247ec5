/- Slices of int64 that a call hands back: as own memory; the laws' marks on them. -/
import Derived.Test.YtmcffhafonemeaaSl
namespace Go.Proofs.Ytmcffhafonemeaa
open Go.RowKit
set_option linter.unusedVariables false
def scells (xs : List Int) (sp : List Value) : Array Value := (xs.map (Value.int .i64) ++ sp).toArray
theorem scells_get (xs : List Int) (sp : List Value) (j : Nat) (h : j < xs.length) : (scells xs sp)[j]? = some (.int .i64 (xs.getD j 0)) := by
  unfold scells
  rw [List.getElem?_toArray, List.getElem?_append_left (by simpa using h)]
  simp [h]
theorem scells_set (xs : List Int) (sp : List Value) (j : Nat) (x : Int) (h : j < xs.length) : (scells xs sp).setIfInBounds j (.int .i64 x) = scells (xs.set j x) sp := by
  unfold scells
  apply Array.toList_inj.1
  simp only [Array.toList_setIfInBounds]
  rw [List.set_append_left _ _ (by simpa using h), List.map_set]
/-- A slice of numbers in memory of a call's own, at a block of a number at least B. -/
def Mn (w : World) (B : Nat) (p : Option Addr) (xs : List Int) : Prop :=
  (p = none ∧ xs = []) ∨ ∃ (g : Nat) (sp : List Value), p = some ⟨g, 0, none⟩ ∧ B ≤ g ∧ Own w g (scells xs sp) 2
theorem Mn.rd {w : World} {B : Nat} {p : Option Addr} {xs : List Int} (h : Mn w B p xs) : Rd w p xs := by
  rcases h with ⟨rfl, rfl⟩ | ⟨g, sp, rfl, hb, ho⟩
  · exact ⟨fun a e => (by cases e), fun _ => rfl⟩
  · refine ⟨fun a e j hj => ?_, fun e => by cases e⟩
    cases e
    have : (⟨g, 0, none⟩ : Addr).add j = ⟨g, j, none⟩ := by rw [Addr.add_mid, Nat.zero_add]
    rw [this, ho.cell, scells_get _ _ _ hj]
theorem Mn.below {w w' : World} {B B' : Nat} {p : Option Addr} {xs : List Int} (h : Mn w B p xs) (hb : Below B' w w') (hs : w.heap.size ≤ B') : Mn w' B p xs := by
  rcases h with h | ⟨g, sp, rfl, hg, ho⟩
  · exact .inl h
  · exact .inr ⟨g, sp, rfl, hg, ho.below hb (Nat.lt_of_lt_of_le ho.lt hs)⟩
theorem Mn.weak {w : World} {B B' : Nat} {p : Option Addr} {xs : List Int} (h : Mn w B p xs) (hb : B' ≤ B) : Mn w B' p xs := by
  rcases h with h | ⟨g, sp, rfl, hg, ho⟩
  · exact .inl h
  · exact .inr ⟨g, sp, rfl, Nat.le_trans hb hg, ho⟩
theorem Mn.new {w : World} {B g : Nat} {xs : List Int} (hb : B ≤ g) (h : Own w g (icells xs) 2) : Mn w B (some ⟨g, 0, none⟩) xs :=
  .inr ⟨g, [], rfl, hb, by rw [scells, List.append_nil]; exact h⟩
theorem Mn.ints {w : World} {B base g cap : Nat} {xs : List Int} (hb : B ≤ base) (h : Ints w base g cap xs) : Mn w B (some ⟨g, 0, none⟩) xs := by
  obtain ⟨h1, h2, h3, cur, ho, hs, ht⟩ := h
  refine .inr ⟨g, cur.toList.drop xs.length, rfl, Nat.le_trans hb h1, ?_⟩
  have : scells xs (cur.toList.drop xs.length) = cur := by
    unfold scells
    rw [← ht, List.take_append_drop]
  rw [this]; exact ho
theorem Mn.nil (w : World) (B : Nat) : Mn w B none [] := .inl ⟨rfl, rfl⟩
/-- A list of numbers that the call has made, and a code. -/
def ResI (xs : List Int) (c : Int) (w : World) (e : Ending) (w' : World) : Prop :=
  ∃ (p : Option Addr) (cap : Nat), e = .returned (.tuple #[.slice p xs.length cap, .int .i64 c]) ∧ Mn w' w.heap.size p xs ∧ Below w.heap.size w w'
theorem Mn.ne {w : World} {B b : Nat} {p : Option Addr} {xs : List Int} (h : Mn w B p xs) (hb : b < B) {a : Addr} (e : some (⟨b, 0, none⟩ : Addr) = some a) : p ≠ some a := by
  rintro rfl
  rcases h with ⟨h, _⟩ | ⟨g, sp, h, hg, _⟩
  · cases h
  · rw [← e] at h
    injection h with h
    injection h with h
    omega
theorem Mn.base {w w' : World} {B B' : Nat} {p : Option Addr} {xs ys : List Int} (h : Mn w' B' p xs) (h' : Mn w B p ys) : Mn w' B p xs := by
  rcases h with h | ⟨g, sp, rfl, hg, ho⟩
  · exact .inl h
  · rcases h' with ⟨h1, _⟩ | ⟨g', sp', h1, hg', _⟩
    · cases h1
    · injection h1 with h1
      injection h1 with h1
      exact .inr ⟨g, sp, rfl, by omega, ho⟩
/-- The numbers k, k + 1, .. -/
def marksI (k : Int) (n : Nat) : List Int := (List.range n).map fun (j : Nat) => k + (j : Int)
theorem marksI_len (k : Int) (n : Nat) : (marksI k n).length = n := by simp [marksI]
theorem marksI_get (k : Int) (n j : Nat) (h : j < n) : (marksI k n).getD j 0 = k + j := by
  rw [List.getD_eq_getElem?_getD]; simp [marksI, h]
/-- The first j are marks. -/
def mkI (k : Int) (xs : List Int) (j : Nat) : List Int := marksI k j ++ xs.drop j
theorem mkI_len (k : Int) (xs : List Int) (j : Nat) (h : j ≤ xs.length) : (mkI k xs j).length = xs.length := by simp [mkI, marksI]; omega
theorem mkI_set (k : Int) (xs : List Int) (j : Nat) (h : j < xs.length) : (mkI k xs j).set j (k + j) = mkI k xs (j + 1) := by
  unfold mkI
  rw [List.set_append_right _ _ (by rw [marksI_len]; exact Nat.le_refl _), marksI_len, Nat.sub_self, List.drop_eq_getElem_cons h, List.set_cons_zero]
  unfold marksI
  rw [List.range_succ, List.map_append]
  simp
theorem mkI_end (k : Int) (xs : List Int) : mkI k xs xs.length = marksI k xs.length := by simp [mkI]
theorem Mn.only {w w' : World} {B g : Nat} {q : Option Addr} {ys : List Int} (h : Mn w B q ys) (ho : Only g w w') (hne : q ≠ some ⟨g, 0, none⟩) : Mn w' B q ys := by
  rcases h with h | ⟨g', sp, rfl, hb, hh⟩
  · exact .inl h
  · exact .inr ⟨g', sp, rfl, hb, hh.only ho (fun e => hne (by rw [e]))⟩
end Go.Proofs.Ytmcffhafonemeaa
