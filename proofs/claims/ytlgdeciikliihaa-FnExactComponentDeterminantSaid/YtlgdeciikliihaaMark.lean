/- Slices of int64 that a call hands back: as own memory; the laws' marks on them. -/
import Derived.Test.YtlgdeciikliihaaSl
namespace Go.Proofs.Ytlgdeciikliihaa
open Go.RowKit
set_option linter.unusedVariables false
def scells (xs : List Int) (sp : List Value) : Array Value := (xs.map (Value.int .i64) ++ sp).toArray
theorem scells_get (xs : List Int) (sp : List Value) (j : Nat) (h : j < xs.length) : (scells xs sp)[j]? = some (.int .i64 (xs.getD j 0)) := by
  unfold scells
  rw [List.getElem?_toArray, List.getElem?_append_left (by simpa using h)]
  simp [h]
theorem scells_set (xs : List Int) (sp : List Value) (j : Nat) (x : Int) (h : j < xs.length) : (scells xs sp).setIfInBounds j (.int .i64 x) = scells (xs.set j x) sp := by
  unfold scells
  apply Array.toList_inj.1
  simp only [Array.toList_setIfInBounds]
  rw [List.set_append_left _ _ (by simpa using h), List.map_set]
/-- A slice of numbers in memory of a call's own, at a block of a number at least B. -/
def Mn (w : World) (B : Nat) (p : Option Addr) (xs : List Int) : Prop :=
  (p = none ∧ xs = []) ∨ ∃ (g : Nat) (sp : List Value), p = some ⟨g, 0, none⟩ ∧ B ≤ g ∧ Own w g (scells xs sp) 2
theorem Mn.rd {w : World} {B : Nat} {p : Option Addr} {xs : List Int} (h : Mn w B p xs) : Rd w p xs := by
  rcases h with ⟨rfl, rfl⟩ | ⟨g, sp, rfl, hb, ho⟩
  · exact ⟨fun a e => (by cases e), fun _ => rfl⟩
  · refine ⟨fun a e j hj => ?_, fun e => by cases e⟩
    cases e
    have : (⟨g, 0, none⟩ : Addr).add j = ⟨g, j, none⟩ := by rw [Addr.add_mid, Nat.zero_add]
    rw [this, ho.cell, scells_get _ _ _ hj]
theorem Mn.below {w w' : World} {B B' : Nat} {p : Option Addr} {xs : List Int} (h : Mn w B p xs) (hb : Below B' w w') (hs : w.heap.size ≤ B') : Mn w' B p xs := by
  rcases h with h | ⟨g, sp, rfl, hg, ho⟩
  · exact .inl h
  · exact .inr ⟨g, sp, rfl, hg, ho.below hb (Nat.lt_of_lt_of_le ho.lt hs)⟩
theorem Mn.weak {w : World} {B B' : Nat} {p : Option Addr} {xs : List Int} (h : Mn w B p xs) (hb : B' ≤ B) : Mn w B' p xs := by
  rcases h with h | ⟨g, sp, rfl, hg, ho⟩
  · exact .inl h
  · exact .inr ⟨g, sp, rfl, Nat.le_trans hb hg, ho⟩
theorem Mn.new {w : World} {B g : Nat} {xs : List Int} (hb : B ≤ g) (h : Own w g (icells xs) 2) : Mn w B (some ⟨g, 0, none⟩) xs :=
  .inr ⟨g, [], rfl, hb, by rw [scells, List.append_nil]; exact h⟩
theorem Mn.ints {w : World} {B base g cap : Nat} {xs : List Int} (hb : B ≤ base) (h : Ints w base g cap xs) : Mn w B (some ⟨g, 0, none⟩) xs := by
  obtain ⟨h1, h2, h3, cur, ho, hs, ht⟩ := h
  refine .inr ⟨g, cur.toList.drop xs.length, rfl, Nat.le_trans hb h1, ?_⟩
  have : scells xs (cur.toList.drop xs.length) = cur := by
    unfold scells
    rw [← ht, List.take_append_drop]
  rw [this]; exact ho
theorem Mn.nil (w : World) (B : Nat) : Mn w B none [] := .inl ⟨rfl, rfl⟩
/-- A list of numbers that the call has made, and a code. -/
def ResI (xs : List Int) (c : Int) (w : World) (e : Ending) (w' : World) : Prop :=
  ∃ (p : Option Addr) (cap : Nat), e = .returned (.tuple #[.slice p xs.length cap, .int .i64 c]) ∧ Mn w' w.heap.size p xs ∧ Below w.heap.size w w'
theorem Mn.ne {w : World} {B b : Nat} {p : Option Addr} {xs : List Int} (h : Mn w B p xs) (hb : b < B) {a : Addr} (e : some (⟨b, 0, none⟩ : Addr) = some a) : p ≠ some a := by
  rintro rfl
  rcases h with ⟨h, _⟩ | ⟨g, sp, h, hg, _⟩
  · cases h
  · rw [← e] at h
    injection h with h
    injection h with h
    omega
theorem Mn.base {w w' : World} {B B' : Nat} {p : Option Addr} {xs ys : List Int} (h : Mn w' B' p xs) (h' : Mn w B p ys) : Mn w' B p xs := by
  rcases h with h | ⟨g, sp, rfl, hg, ho⟩
  · exact .inl h
  · rcases h' with ⟨h1, _⟩ | ⟨g', sp', h1, hg', _⟩
    · cases h1
    · injection h1 with h1
      injection h1 with h1
      exact .inr ⟨g, sp, rfl, by omega, ho⟩
/-- The numbers k, k + 1, .. -/
def marksI (k : Int) (n : Nat) : List Int := (List.range n).map fun (j : Nat) => k + (j : Int)
theorem marksI_len (k : Int) (n : Nat) : (marksI k n).length = n := by simp [marksI]
theorem marksI_get (k : Int) (n j : Nat) (h : j < n) : (marksI k n).getD j 0 = k + j := by
  rw [List.getD_eq_getElem?_getD]; simp [marksI, h]
/-- The first j are marks. -/
def mkI (k : Int) (xs : List Int) (j : Nat) : List Int := marksI k j ++ xs.drop j
theorem mkI_len (k : Int) (xs : List Int) (j : Nat) (h : j ≤ xs.length) : (mkI k xs j).length = xs.length := by simp [mkI, marksI]; omega
theorem mkI_set (k : Int) (xs : List Int) (j : Nat) (h : j < xs.length) : (mkI k xs j).set j (k + j) = mkI k xs (j + 1) := by
  unfold mkI
  rw [List.set_append_right _ _ (by rw [marksI_len]; exact Nat.le_refl _), marksI_len, Nat.sub_self, List.drop_eq_getElem_cons h, List.set_cons_zero]
  unfold marksI
  rw [List.range_succ, List.map_append]
  simp
theorem mkI_end (k : Int) (xs : List Int) : mkI k xs xs.length = marksI k xs.length := by simp [mkI]
theorem Mn.only {w w' : World} {B g : Nat} {q : Option Addr} {ys : List Int} (h : Mn w B q ys) (ho : Only g w w') (hne : q ≠ some ⟨g, 0, none⟩) : Mn w' B q ys := by
  rcases h with h | ⟨g', sp, rfl, hb, hh⟩
  · exact .inl h
  · exact .inr ⟨g', sp, rfl, hb, hh.only ho (fun e => hne (by rw [e]))⟩
set_option maxRecDepth 100000 in
set_option maxHeartbeats 1000000 in
theorem mark_all (B : Nat) (p : Option Addr) (cap : Nat) (xs : List Int) (hx : xs.length ≤ 1048576) (k : Int) (k0 : 0 ≤ k) (k2 : k ≤ 4194304) (w : World) (hM : Mn w B p xs) (hB : B ≤ w.heap.size) :
    Calls Try.prog 12 #[.slice p xs.length cap, .int .i64 k] w fun e w' => e = .returned (.int .i64 (k + xs.length)) ∧ Mn w' B p (marksI k xs.length) ∧ Below B w w' ∧ (∀ q ys, Mn w B q ys → (∀ a, p = some a → q ≠ some a) → Mn w' B q ys) := by
  rcases hM with ⟨rfl, rfl⟩ | ⟨g, sp, rfl, hg, ho⟩
  · go_enter Try.func12, Try.ntmps12
    go_wp2
    go_loopw [1, 5] (fun q i wr => i = .int .i64 0 ∧ q = .int .i64 k ∧ wr = w) (fun _ i _ => 0)
    case atStart => exact ⟨rfl, rfl, rfl⟩
    case round =>
      obtain ⟨rfl, rfl, rfl⟩ := hrel
      go_wp2
      go_ret
      exact ⟨by simp, Mn.nil _ _, Below.refl _ _, fun q ys h _ => h⟩
  · obtain ⟨m, hm⟩ : ∃ m, xs.length = m := ⟨_, rfl⟩
    have hN := Lib.hid hm
    have h0 := Lib.hid (show scells xs sp = scells (mkI k xs 0) sp by simp [mkI, marksI])
    rw [hm] at hx ⊢
    clear hm
    go_enter Try.func12, Try.ntmps12
    go_wp2
    go_loopw [1, 5] (fun q i wr => ∃ j : Nat, j ≤ m ∧ i = .int .i64 j ∧ q = .int .i64 (k + j) ∧ Own wr g (scells (mkI k xs j) sp) 2 ∧ Only g w wr) (fun _ i _ => ((m : Int) - intOf i).toNat)
    case atStart => exact ⟨0, by omega, rfl, by simp, by rw [← h0.out]; exact ho, Only.refl _ _⟩
    case round =>
      obtain ⟨j, hj, rfl, rfl, hO, hBB⟩ := hrel
      have hll := mkI_len k xs j (by rw [hN.out]; exact hj)
      by_cases hlt : j < m
      · have hks : j < xs.length := by have := hN.out; omega
        have c2 := hO.cell j
        rw [scells_get _ _ _ (by omega)] at c2
        have f2 := hO.free j
        have hO2 := hO.set j (.int .i64 (k + j))
        rw [scells_set _ _ _ _ (by omega), mkI_set _ _ _ hks] at hO2
        have hB2 := hBB.trans (Only.set g j _ (.int .i64 (k + j)))
        have K1 := Lib.hid hO2
        have i1 : (j : Int) < (m : Int) := by omega
        clear hO2 hll
        go_wp2
        go_roundw
        case rel => exact ⟨j + 1, by omega, by go_num, by go_num, K1.out, hB2⟩
        case measure => simp [intOf]; omega
      · have hk2 : j = m := by omega
        subst hk2
        have e : mkI k xs j = marksI k j := by rw [← hN.out]; exact mkI_end k xs
        rw [e] at hO
        clear e hll
        go_wp2
        go_ret
        exact ⟨rfl, .inr ⟨g, sp, rfl, hg, hO⟩, hBB.below.mono hg, fun q ys h hne => h.only hBB (fun e => hne _ rfl e)⟩
theorem mark_any (B : Nat) (p : Option Addr) (cap : Nat) (xs : List Int) (hx : xs.length ≤ 1048576) (k : Int) (k0 : 0 ≤ k) (k2 : k ≤ 4194304) (w : World) (hM : Mn w B p xs) (hB : B ≤ w.heap.size) :
    Calls Try.prog 12 #[.slice p xs.length cap, .int .i64 k] w fun e w' => e = .returned (.int .i64 (k + xs.length)) ∧ Mn w' B p (marksI k xs.length) ∧ Below B w w' :=
  (mark_all B p cap xs hx k k0 k2 w hM hB).mono fun e w' h => ⟨h.1, h.2.1, h.2.2.1⟩
set_option maxRecDepth 100000 in
set_option maxHeartbeats 1000000 in
theorem held_any (p : Option Addr) (cap : Nat) (m : Nat) (hx : m ≤ 1048576) (k : Int) (k0 : 0 ≤ k) (k2 : k ≤ 4194304) (w : World) (hR : Rd w p (marksI k m)) :
    Calls Try.prog 13 #[.slice p m cap, .int .i64 k] w fun e w' => e = .returned (.int .i64 (k + m)) ∧ w' = w := by
  have hR' := Lib.hid hR
  clear hR
  go_enter Try.func13, Try.ntmps13
  go_wp2
  go_loopw [1, 5] (fun q i wr => ∃ j : Nat, j ≤ m ∧ i = .int .i64 j ∧ q = .int .i64 (k + j) ∧ wr = w) (fun _ i _ => ((m : Int) - intOf i).toNat)
  case atStart => exact ⟨0, by omega, rfl, by simp, rfl⟩
  case round =>
    obtain ⟨j, hj, rfl, rfl, rfl⟩ := hrel
    by_cases hlt : j < m
    · have hks : j < (marksI k m).length := by rw [marksI_len]; exact hlt
      cases p with
      | none => have := hR'.out.nil rfl; rw [this] at hks; simp at hks
      | some a =>
        have c1 := hR'.out.cell a rfl j hks
        rw [marksI_get _ _ _ hlt] at c1
        have i1 : (j : Int) < (m : Int) := by omega
        clear hks
        go_wp2
        go_roundw
        case rel => exact ⟨j + 1, by omega, by go_num, by go_num, trivial⟩
        case measure => simp [intOf]; omega
    · have hk2 : j = m := by omega
      subst hk2
      go_wp2
      go_ret
      exact ⟨rfl, rfl⟩
end Go.Proofs.Ytlgdeciikliihaa
