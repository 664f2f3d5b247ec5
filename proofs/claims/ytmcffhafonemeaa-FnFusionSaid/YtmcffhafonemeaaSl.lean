/- Slices of int64 that are read: the laws' own copies and comparisons of them. -/
import Derived.Test.YtmcffhafonemeaaInts
import Derived.WalkSmall
import Derived.StillTailTactics
import Derived.Deep.QuietTactic
import Derived.BigQuiet
namespace Go.Proofs.Ytmcffhafonemeaa
open Go.RowKit
/-- The numbers that can be read through a slice's pointer. -/
structure Rd (w : World) (p : Option Addr) (xs : List Int) : Prop where
  cell : ∀ a, p = some a → ∀ j, j < xs.length → w.cell? (a.add j) = some (.int .i64 (xs.getD j 0))
  nil : p = none → xs = []
theorem Rd.below {w w' : World} {p : Option Addr} {xs : List Int} (h : Rd w p xs) (hb : Below w.heap.size w w') : Rd w' p xs := by
  refine ⟨fun a e j hj => ?_, h.nil⟩
  have hc := h.cell a e j hj
  have hlt : (a.add j).block < w.heap.size := by
    refine Decidable.byContradiction fun hn => ?_
    unfold World.cell? at hc
    rw [Array.getElem?_eq_none (by omega)] at hc
    simp at hc
  have : w'.cell? (a.add j) = w.cell? (a.add j) := by unfold World.cell?; rw [hb.block _ hlt]
  rw [this]; exact hc
def icells (xs : List Int) : Array Value := (xs.map (Value.int .i64)).toArray
theorem icells_size (xs : List Int) : (icells xs).size = xs.length := by simp [icells]
theorem icells_get (xs : List Int) (i : Nat) (h : i < xs.length) : (icells xs)[i]? = some (.int .i64 (xs.getD i 0)) := by simp [icells, h]
theorem icells_set (xs : List Int) (i : Nat) (x : Int) : (icells xs).setIfInBounds i (.int .i64 x) = icells (xs.set i x) := by simp [icells, List.map_set]
theorem Rd.own {w : World} {g : Nat} {xs : List Int} (h : Own w g (icells xs) 2) : Rd w (some ⟨g, 0, none⟩) xs := by
  refine ⟨fun a e j hj => ?_, fun e => by cases e⟩
  cases e
  have : (⟨g, 0, none⟩ : Addr).add j = ⟨g, j, none⟩ := by rw [Addr.add_mid, Nat.zero_add]
  rw [this, h.cell, icells_get _ _ hj]
/-- The first k numbers, and zeros behind them. -/
def cpI (xs : List Int) (k : Nat) : List Int := xs.take k ++ List.replicate (xs.length - k) 0
theorem cpI_len (xs : List Int) (k : Nat) (h : k ≤ xs.length) : (cpI xs k).length = xs.length := by simp [cpI]; omega
theorem cpI_set (xs : List Int) (k : Nat) (h : k < xs.length) : (cpI xs k).set k (xs.getD k 0) = cpI xs (k + 1) := by
  apply List.ext_getElem?
  intro i
  rw [List.getElem?_set]
  have l1 : (xs.take k).length = k := by simp; omega
  have l2 : (xs.take (k + 1)).length = k + 1 := by simp; omega
  unfold cpI
  by_cases e : k = i
  · subst e
    rw [if_pos rfl, if_pos (by simp; omega), List.getElem?_append_left (by omega), List.getElem?_take_of_lt (by omega), List.getD_eq_getElem?_getD, List.getElem?_eq_getElem h]; rfl
  · rw [if_neg e]
    by_cases c : i < k
    · rw [List.getElem?_append_left (by omega), List.getElem?_append_left (by omega), List.getElem?_take_of_lt c, List.getElem?_take_of_lt (by omega)]
    · rw [List.getElem?_append_right (by omega), List.getElem?_append_right (by omega), List.getElem?_replicate, List.getElem?_replicate, l1, l2]
      congr 1
      simp; omega
theorem cpI_end (xs : List Int) : cpI xs xs.length = xs := by simp [cpI]
theorem cpI_zero (xs : List Int) : icells (cpI xs 0) = Array.replicate xs.length (.int .i64 0) := by
  apply Array.toList_inj.1
  simp [icells, cpI]
theorem made64 (n : Nat) : madeCells #[Value.int .i64 0] n = icells (List.replicate n 0) := by
  apply Array.toList_inj.1
  unfold madeCells icells
  simp only [Array.toList_map, Array.toList_range, List.map_replicate]
  apply List.ext_getElem?
  intro i
  rw [List.getElem?_map, List.getElem?_replicate]
  by_cases h : i < n
  · rw [List.getElem?_range h, if_pos h]
    simp [Nat.mod_one]
  · rw [if_neg h, List.getElem?_eq_none (by simpa using h)]; rfl
theorem makeI (n : Nat) (hn : n ≤ 1048576) : ∀ w : World, (Instr.makeSlice 32 (.int .i64 n) (.int .i64 n)).run Try.prog w = .ok (.slice (some ⟨w.heap.size, 0, none⟩) n n) (w.alloc (.cells (icells (List.replicate n 0)) 2)) := by
  intro w
  obtain ⟨i0, hi0, hz0, hz1, hz2⟩ := info_parts info64
  have := run_make w 32 2 i0 (.int .i64 0) Try.underlying32 hi0 hz0 .i64 .i64 (n : Int) (n : Int) (by omega) (by omega) (by rw [hz2]; omega) (by omega)
  rw [this, hz1]
  simp only [Int.toNat_natCast, Nat.mul_one]
  rw [← made64]
  rfl
theorem rd_some {w : World} {p : Option Addr} {xs : List Int} (h : Rd w p xs) {k : Nat} (hk : k < xs.length) : ∃ a, p = some a := by
  cases p with
  | none => rw [h.nil rfl] at hk; simp at hk
  | some a => exact ⟨a, rfl⟩
theorem drop_step (xs : List Int) (k : Nat) (h : k < xs.length) : xs.drop k = xs.getD k 0 :: xs.drop (k + 1) := by
  rw [List.drop_eq_getElem_cons h, List.getD_eq_getElem?_getD, List.getElem?_eq_getElem h]; rfl
end Go.Proofs.Ytmcffhafonemeaa
