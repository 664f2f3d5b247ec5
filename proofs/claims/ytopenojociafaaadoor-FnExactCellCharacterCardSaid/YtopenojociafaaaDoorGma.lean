/- An append to a slice of int64 of a call's own: to which block it goes. Slices of int64 that are read: the laws' own copies and comparisons of them. Slices of int64 that a call hands back: as own memory; the laws' marks on them. Slices of slices of numbers that the call itself made; rows of tables. -/
import Derived.Test.YtopenojociafaaaDoorInts
import Derived.Maps.AppendAt
import Derived.WalkSmall
import Derived.StillTailTactics
import Derived.Deep.QuietTactic
import Derived.BigQuiet
namespace Go.Proofs.YtopenojociafaaaDoor
open Go.RowKit
/-- One number is appended: in the same block, or in a new one. -/
theorem wpList_append_ints_at {ops : Array Oper} {rest : List Oper} {o : Oper} {a : Act} {w : World} {Q : Exit → Act → World → Prop} (hgd : o.guard = none) (s x : Operand)
    (ho : o.op = .call { callee := .builtin .append, args := #[s, x], argTypes := #[48, 48] })
    (base g cap : Nat) (xs : List Int) (y : Int) (hs : a.eval s = ival g cap xs) (hi : Ints w base g cap xs) (ad : Addr) (c : Nat)
    (hx : a.eval x = .slice (some ad) 1 c) (hy : w.cell? ad = some (.int .i64 y)) (hl : xs.length < 2097152) (hbase : base ≤ w.heap.size)
    (h : ∀ g' cap' w', Ints w' base g' cap' (xs ++ [y]) → w.grownBy w' (some g) → (g' = g ∨ g' = w.heap.size) → wpList Tryd.prog ops Q rest (a.put o.dst (ival g' cap' (xs ++ [y]))) w') : wpList Tryd.prog ops Q (o :: rest) a w := by
  obtain ⟨i0, hi0, hz0, hz1, hz2⟩ := info_parts info64
  refine wpList_append_own_at w hgd s x 48 ho base 2 i0 (.int .i64 0) 1 8 Tryd.underlying48 hi0 hz0 hz1 hz2 rfl (by decide) _ _ _ hs hi.owns ad 1 c [.int .i64 y] hx rfl ?_ (by simp [Value.oneCell']) (by unfold maxLen; omega) (by omega) hbase ?_
  · intro j u hj
    match j, hj with
    | 0, hj =>
      simp at hj; subst hj
      have e : ad.add 0 = ad := by unfold Addr.add; split <;> simp_all
      rw [e]; exact hy
    | j + 1, hj => simp at hj
  · intro v' w' hown hgr hn hat
    have e1 : (xs ++ [y]).length = xs.length + 1 := by simp
    have e2 : (xs ++ [y]).map (Value.int .i64) = xs.map (Value.int .i64) ++ [.int .i64 y] := by simp
    rw [← e1, ← e2] at hown
    obtain ⟨g', cap', rfl, hI⟩ := Ints.of_owns hown (fun e => by simpa [ival] using hn.1 e)
    refine h g' cap' w' hI hgr ?_
    simpa [ival, Value.ownBlock] using hat
end Go.Proofs.YtopenojociafaaaDoor
namespace Go.Proofs.YtopenojociafaaaDoor
open Go.RowKit
/-- The numbers that can be read through a slice's pointer. -/
structure Rd (w : World) (p : Option Addr) (xs : List Int) : Prop where
  cell : ∀ a, p = some a → ∀ j, j < xs.length → w.cell? (a.add j) = some (.int .i64 (xs.getD j 0))
  nil : p = none → xs = []
theorem Rd.below {w w' : World} {p : Option Addr} {xs : List Int} (h : Rd w p xs) (hb : Below w.heap.size w w') : Rd w' p xs := by
  refine ⟨fun a e j hj => ?_, h.nil⟩
  have hc := h.cell a e j hj
  have hlt : (a.add j).block < w.heap.size := by
    refine Decidable.byContradiction fun hn => ?_
    unfold World.cell? at hc
    rw [Array.getElem?_eq_none (by omega)] at hc
    simp at hc
  have : w'.cell? (a.add j) = w.cell? (a.add j) := by unfold World.cell?; rw [hb.block _ hlt]
  rw [this]; exact hc
def icells (xs : List Int) : Array Value := (xs.map (Value.int .i64)).toArray
theorem icells_size (xs : List Int) : (icells xs).size = xs.length := by simp [icells]
theorem icells_get (xs : List Int) (i : Nat) (h : i < xs.length) : (icells xs)[i]? = some (.int .i64 (xs.getD i 0)) := by simp [icells, h]
theorem icells_set (xs : List Int) (i : Nat) (x : Int) : (icells xs).setIfInBounds i (.int .i64 x) = icells (xs.set i x) := by simp [icells, List.map_set]
theorem Rd.own {w : World} {g : Nat} {xs : List Int} (h : Own w g (icells xs) 2) : Rd w (some ⟨g, 0, none⟩) xs := by
  refine ⟨fun a e j hj => ?_, fun e => by cases e⟩
  cases e
  have : (⟨g, 0, none⟩ : Addr).add j = ⟨g, j, none⟩ := by rw [Addr.add_mid, Nat.zero_add]
  rw [this, h.cell, icells_get _ _ hj]
/-- The first k numbers, and zeros behind them. -/
def cpI (xs : List Int) (k : Nat) : List Int := xs.take k ++ List.replicate (xs.length - k) 0
theorem cpI_len (xs : List Int) (k : Nat) (h : k ≤ xs.length) : (cpI xs k).length = xs.length := by simp [cpI]; omega
theorem cpI_set (xs : List Int) (k : Nat) (h : k < xs.length) : (cpI xs k).set k (xs.getD k 0) = cpI xs (k + 1) := by
  apply List.ext_getElem?
  intro i
  rw [List.getElem?_set]
  have l1 : (xs.take k).length = k := by simp; omega
  have l2 : (xs.take (k + 1)).length = k + 1 := by simp; omega
  unfold cpI
  by_cases e : k = i
  · subst e
    rw [if_pos rfl, if_pos (by simp; omega), List.getElem?_append_left (by omega), List.getElem?_take_of_lt (by omega), List.getD_eq_getElem?_getD, List.getElem?_eq_getElem h]; rfl
  · rw [if_neg e]
    by_cases c : i < k
    · rw [List.getElem?_append_left (by omega), List.getElem?_append_left (by omega), List.getElem?_take_of_lt c, List.getElem?_take_of_lt (by omega)]
    · rw [List.getElem?_append_right (by omega), List.getElem?_append_right (by omega), List.getElem?_replicate, List.getElem?_replicate, l1, l2]
      congr 1
      simp; omega
theorem cpI_end (xs : List Int) : cpI xs xs.length = xs := by simp [cpI]
theorem cpI_zero (xs : List Int) : icells (cpI xs 0) = Array.replicate xs.length (.int .i64 0) := by
  apply Array.toList_inj.1
  simp [icells, cpI]
theorem made64 (n : Nat) : madeCells #[Value.int .i64 0] n = icells (List.replicate n 0) := by
  apply Array.toList_inj.1
  unfold madeCells icells
  simp only [Array.toList_map, Array.toList_range, List.map_replicate]
  apply List.ext_getElem?
  intro i
  rw [List.getElem?_map, List.getElem?_replicate]
  by_cases h : i < n
  · rw [List.getElem?_range h, if_pos h]
    simp [Nat.mod_one]
  · rw [if_neg h, List.getElem?_eq_none (by simpa using h)]; rfl
theorem makeI (n : Nat) (hn : n ≤ 1048576) : ∀ w : World, (Instr.makeSlice 48 (.int .i64 n) (.int .i64 n)).run Tryd.prog w = .ok (.slice (some ⟨w.heap.size, 0, none⟩) n n) (w.alloc (.cells (icells (List.replicate n 0)) 2)) := by
  intro w
  obtain ⟨i0, hi0, hz0, hz1, hz2⟩ := info_parts info64
  have := run_make w 48 2 i0 (.int .i64 0) Tryd.underlying48 hi0 hz0 .i64 .i64 (n : Int) (n : Int) (by omega) (by omega) (by rw [hz2]; omega) (by omega)
  rw [this, hz1]
  simp only [Int.toNat_natCast, Nat.mul_one]
  rw [← made64]
  rfl
set_option maxRecDepth 100000 in
set_option maxHeartbeats 1000000 in
theorem eqI_same (p q : Option Addr) (cap cap' : Nat) (xs : List Int) (hx : xs.length ≤ 4194304) (w : World) (hR : Rd w p xs) (hQ : Rd w q xs) :
    Calls Tryd.prog 28 #[.slice p xs.length cap, .slice q xs.length cap'] w fun e w' => e = .returned (.bool true) ∧ Below w.heap.size w w' := by
  obtain ⟨n, hn⟩ : ∃ n, xs.length = n := ⟨_, rfl⟩
  have hR' := Lib.hid hR
  have hQ' := Lib.hid hQ
  rw [hn] at hx ⊢
  have hN := Lib.hid hn
  clear hR hQ hn
  go_enter Tryd.func28, Tryd.ntmps28
  go_wp2
  go_loopw [5] (fun i wr => ∃ k : Nat, k ≤ n ∧ i = .int .i64 k ∧ Below w.heap.size w wr) (fun i _ => ((n : Int) - intOf i).toNat)
  case atStart => exact ⟨0, by omega, rfl, Below.refl _ _⟩
  case round =>
    obtain ⟨k, hk, rfl, hB⟩ := hrel
    by_cases hlt : k < n
    · cases p with
      | none => exfalso; have h1 := hR'.out.nil rfl; have h2 := hN.out; rw [h1] at h2; simp at h2; omega
      | some a =>
        cases q with
        | none => exfalso; have h1 := hQ'.out.nil rfl; have h2 := hN.out; rw [h1] at h2; simp at h2; omega
        | some b =>
          have c1 := (hR'.out.below hB).cell a rfl k (by rw [hN.out]; exact hlt)
          have c2 := (hQ'.out.below hB).cell b rfl k (by rw [hN.out]; exact hlt)
          have i1 : (k : Int) < (n : Int) := by omega
          go_wp2
          go_quiet (fail)
          go_wp2
          go_roundw
          case rel => exact ⟨k + 1, by omega, by go_num, Below.drewN hB _⟩
          case measure => simp [intOf]; omega
    · have hk2 : k = n := by omega
      subst hk2
      go_wp2
      go_ret
      exact ⟨rfl, hB⟩
theorem rd_some {w : World} {p : Option Addr} {xs : List Int} (h : Rd w p xs) {k : Nat} (hk : k < xs.length) : ∃ a, p = some a := by
  cases p with
  | none => rw [h.nil rfl] at hk; simp at hk
  | some a => exact ⟨a, rfl⟩
theorem drop_step (xs : List Int) (k : Nat) (h : k < xs.length) : xs.drop k = xs.getD k 0 :: xs.drop (k + 1) := by
  rw [List.drop_eq_getElem_cons h, List.getD_eq_getElem?_getD, List.getElem?_eq_getElem h]; rfl
end Go.Proofs.YtopenojociafaaaDoor
namespace Go.Proofs.YtopenojociafaaaDoor
open Go.RowKit
set_option linter.unusedVariables false
def scells (xs : List Int) (sp : List Value) : Array Value := (xs.map (Value.int .i64) ++ sp).toArray
theorem scells_get (xs : List Int) (sp : List Value) (j : Nat) (h : j < xs.length) : (scells xs sp)[j]? = some (.int .i64 (xs.getD j 0)) := by
  unfold scells
  rw [List.getElem?_toArray, List.getElem?_append_left (by simpa using h)]
  simp [h]
theorem scells_set (xs : List Int) (sp : List Value) (j : Nat) (x : Int) (h : j < xs.length) : (scells xs sp).setIfInBounds j (.int .i64 x) = scells (xs.set j x) sp := by
  unfold scells
  apply Array.toList_inj.1
  simp only [Array.toList_setIfInBounds]
  rw [List.set_append_left _ _ (by simpa using h), List.map_set]
/-- A slice of numbers in memory of a call's own, at a block of a number at least B. -/
def Mn (w : World) (B : Nat) (p : Option Addr) (xs : List Int) : Prop :=
  (p = none ∧ xs = []) ∨ ∃ (g : Nat) (sp : List Value), p = some ⟨g, 0, none⟩ ∧ B ≤ g ∧ Own w g (scells xs sp) 2
theorem Mn.rd {w : World} {B : Nat} {p : Option Addr} {xs : List Int} (h : Mn w B p xs) : Rd w p xs := by
  rcases h with ⟨rfl, rfl⟩ | ⟨g, sp, rfl, hb, ho⟩
  · exact ⟨fun a e => (by cases e), fun _ => rfl⟩
  · refine ⟨fun a e j hj => ?_, fun e => by cases e⟩
    cases e
    have : (⟨g, 0, none⟩ : Addr).add j = ⟨g, j, none⟩ := by rw [Addr.add_mid, Nat.zero_add]
    rw [this, ho.cell, scells_get _ _ _ hj]
theorem Mn.below {w w' : World} {B B' : Nat} {p : Option Addr} {xs : List Int} (h : Mn w B p xs) (hb : Below B' w w') (hs : w.heap.size ≤ B') : Mn w' B p xs := by
  rcases h with h | ⟨g, sp, rfl, hg, ho⟩
  · exact .inl h
  · exact .inr ⟨g, sp, rfl, hg, ho.below hb (Nat.lt_of_lt_of_le ho.lt hs)⟩
theorem Mn.weak {w : World} {B B' : Nat} {p : Option Addr} {xs : List Int} (h : Mn w B p xs) (hb : B' ≤ B) : Mn w B' p xs := by
  rcases h with h | ⟨g, sp, rfl, hg, ho⟩
  · exact .inl h
  · exact .inr ⟨g, sp, rfl, Nat.le_trans hb hg, ho⟩
theorem Mn.new {w : World} {B g : Nat} {xs : List Int} (hb : B ≤ g) (h : Own w g (icells xs) 2) : Mn w B (some ⟨g, 0, none⟩) xs :=
  .inr ⟨g, [], rfl, hb, by rw [scells, List.append_nil]; exact h⟩
theorem Mn.ints {w : World} {B base g cap : Nat} {xs : List Int} (hb : B ≤ base) (h : Ints w base g cap xs) : Mn w B (some ⟨g, 0, none⟩) xs := by
  obtain ⟨h1, h2, h3, cur, ho, hs, ht⟩ := h
  refine .inr ⟨g, cur.toList.drop xs.length, rfl, Nat.le_trans hb h1, ?_⟩
  have : scells xs (cur.toList.drop xs.length) = cur := by
    unfold scells
    rw [← ht, List.take_append_drop]
  rw [this]; exact ho
theorem Mn.nil (w : World) (B : Nat) : Mn w B none [] := .inl ⟨rfl, rfl⟩
/-- A list of numbers that the call has made, and a code. -/
def ResI (xs : List Int) (c : Int) (w : World) (e : Ending) (w' : World) : Prop :=
  ∃ (p : Option Addr) (cap : Nat), e = .returned (.tuple #[.slice p xs.length cap, .int .i64 c]) ∧ Mn w' w.heap.size p xs ∧ Below w.heap.size w w'
theorem Mn.ne {w : World} {B b : Nat} {p : Option Addr} {xs : List Int} (h : Mn w B p xs) (hb : b < B) {a : Addr} (e : some (⟨b, 0, none⟩ : Addr) = some a) : p ≠ some a := by
  rintro rfl
  rcases h with ⟨h, _⟩ | ⟨g, sp, h, hg, _⟩
  · cases h
  · rw [← e] at h
    injection h with h
    injection h with h
    omega
theorem Mn.base {w w' : World} {B B' : Nat} {p : Option Addr} {xs ys : List Int} (h : Mn w' B' p xs) (h' : Mn w B p ys) : Mn w' B p xs := by
  rcases h with h | ⟨g, sp, rfl, hg, ho⟩
  · exact .inl h
  · rcases h' with ⟨h1, _⟩ | ⟨g', sp', h1, hg', _⟩
    · cases h1
    · injection h1 with h1
      injection h1 with h1
      exact .inr ⟨g, sp, rfl, by omega, ho⟩
/-- The numbers k, k + 1, .. -/
def marksI (k : Int) (n : Nat) : List Int := (List.range n).map fun (j : Nat) => k + (j : Int)
theorem marksI_len (k : Int) (n : Nat) : (marksI k n).length = n := by simp [marksI]
theorem marksI_get (k : Int) (n j : Nat) (h : j < n) : (marksI k n).getD j 0 = k + j := by
  rw [List.getD_eq_getElem?_getD]; simp [marksI, h]
/-- The first j are marks. -/
def mkI (k : Int) (xs : List Int) (j : Nat) : List Int := marksI k j ++ xs.drop j
theorem mkI_len (k : Int) (xs : List Int) (j : Nat) (h : j ≤ xs.length) : (mkI k xs j).length = xs.length := by simp [mkI, marksI]; omega
theorem mkI_set (k : Int) (xs : List Int) (j : Nat) (h : j < xs.length) : (mkI k xs j).set j (k + j) = mkI k xs (j + 1) := by
  unfold mkI
  rw [List.set_append_right _ _ (by rw [marksI_len]; exact Nat.le_refl _), marksI_len, Nat.sub_self, List.drop_eq_getElem_cons h, List.set_cons_zero]
  unfold marksI
  rw [List.range_succ, List.map_append]
  simp
theorem mkI_end (k : Int) (xs : List Int) : mkI k xs xs.length = marksI k xs.length := by simp [mkI]
theorem Mn.only {w w' : World} {B g : Nat} {q : Option Addr} {ys : List Int} (h : Mn w B q ys) (ho : Only g w w') (hne : q ≠ some ⟨g, 0, none⟩) : Mn w' B q ys := by
  rcases h with h | ⟨g', sp, rfl, hb, hh⟩
  · exact .inl h
  · exact .inr ⟨g', sp, rfl, hb, hh.only ho (fun e => hne (by rw [e]))⟩
set_option maxRecDepth 100000 in
set_option maxHeartbeats 1000000 in
theorem mark_all (B : Nat) (p : Option Addr) (cap : Nat) (xs : List Int) (hx : xs.length ≤ 1048576) (k : Int) (k0 : 0 ≤ k) (k2 : k ≤ 4194304) (w : World) (hM : Mn w B p xs) (hB : B ≤ w.heap.size) :
    Calls Tryd.prog 29 #[.slice p xs.length cap, .int .i64 k] w fun e w' => e = .returned (.int .i64 (k + xs.length)) ∧ Mn w' B p (marksI k xs.length) ∧ Below B w w' ∧ (∀ q ys, Mn w B q ys → (∀ a, p = some a → q ≠ some a) → Mn w' B q ys) := by
  rcases hM with ⟨rfl, rfl⟩ | ⟨g, sp, rfl, hg, ho⟩
  · go_enter Tryd.func29, Tryd.ntmps29
    go_wp2
    go_loopw [1, 5] (fun q i wr => i = .int .i64 0 ∧ q = .int .i64 k ∧ wr = w) (fun _ i _ => 0)
    case atStart => exact ⟨rfl, rfl, rfl⟩
    case round =>
      obtain ⟨rfl, rfl, rfl⟩ := hrel
      go_wp2
      go_ret
      exact ⟨by simp, Mn.nil _ _, Below.refl _ _, fun q ys h _ => h⟩
  · obtain ⟨m, hm⟩ : ∃ m, xs.length = m := ⟨_, rfl⟩
    have hN := Lib.hid hm
    have h0 := Lib.hid (show scells xs sp = scells (mkI k xs 0) sp by simp [mkI, marksI])
    rw [hm] at hx ⊢
    clear hm
    go_enter Tryd.func29, Tryd.ntmps29
    go_wp2
    go_loopw [1, 5] (fun q i wr => ∃ j : Nat, j ≤ m ∧ i = .int .i64 j ∧ q = .int .i64 (k + j) ∧ Own wr g (scells (mkI k xs j) sp) 2 ∧ Only g w wr) (fun _ i _ => ((m : Int) - intOf i).toNat)
    case atStart => exact ⟨0, by omega, rfl, by simp, by rw [← h0.out]; exact ho, Only.refl _ _⟩
    case round =>
      obtain ⟨j, hj, rfl, rfl, hO, hBB⟩ := hrel
      have hll := mkI_len k xs j (by rw [hN.out]; exact hj)
      by_cases hlt : j < m
      · have hks : j < xs.length := by have := hN.out; omega
        have c2 := hO.cell j
        rw [scells_get _ _ _ (by omega)] at c2
        have f2 := hO.free j
        have hO2 := hO.set j (.int .i64 (k + j))
        rw [scells_set _ _ _ _ (by omega), mkI_set _ _ _ hks] at hO2
        have hB2 := hBB.trans (Only.set g j _ (.int .i64 (k + j)))
        have K1 := Lib.hid hO2
        have i1 : (j : Int) < (m : Int) := by omega
        clear hO2 hll
        go_wp2
        go_roundw
        case rel => exact ⟨j + 1, by omega, by go_num, by go_num, K1.out, hB2⟩
        case measure => simp [intOf]; omega
      · have hk2 : j = m := by omega
        subst hk2
        have e : mkI k xs j = marksI k j := by rw [← hN.out]; exact mkI_end k xs
        rw [e] at hO
        clear e hll
        go_wp2
        go_ret
        exact ⟨rfl, .inr ⟨g, sp, rfl, hg, hO⟩, hBB.below.mono hg, fun q ys h hne => h.only hBB (fun e => hne _ rfl e)⟩
theorem mark_any (B : Nat) (p : Option Addr) (cap : Nat) (xs : List Int) (hx : xs.length ≤ 1048576) (k : Int) (k0 : 0 ≤ k) (k2 : k ≤ 4194304) (w : World) (hM : Mn w B p xs) (hB : B ≤ w.heap.size) :
    Calls Tryd.prog 29 #[.slice p xs.length cap, .int .i64 k] w fun e w' => e = .returned (.int .i64 (k + xs.length)) ∧ Mn w' B p (marksI k xs.length) ∧ Below B w w' :=
  (mark_all B p cap xs hx k k0 k2 w hM hB).mono fun e w' h => ⟨h.1, h.2.1, h.2.2.1⟩
set_option maxRecDepth 100000 in
set_option maxHeartbeats 1000000 in
theorem held_any (p : Option Addr) (cap : Nat) (m : Nat) (hx : m ≤ 1048576) (k : Int) (k0 : 0 ≤ k) (k2 : k ≤ 4194304) (w : World) (hR : Rd w p (marksI k m)) :
    Calls Tryd.prog 30 #[.slice p m cap, .int .i64 k] w fun e w' => e = .returned (.int .i64 (k + m)) ∧ w' = w := by
  have hR' := Lib.hid hR
  clear hR
  go_enter Tryd.func30, Tryd.ntmps30
  go_wp2
  go_loopw [1, 5] (fun q i wr => ∃ j : Nat, j ≤ m ∧ i = .int .i64 j ∧ q = .int .i64 (k + j) ∧ wr = w) (fun _ i _ => ((m : Int) - intOf i).toNat)
  case atStart => exact ⟨0, by omega, rfl, by simp, rfl⟩
  case round =>
    obtain ⟨j, hj, rfl, rfl, rfl⟩ := hrel
    by_cases hlt : j < m
    · have hks : j < (marksI k m).length := by rw [marksI_len]; exact hlt
      cases p with
      | none => have := hR'.out.nil rfl; rw [this] at hks; simp at hks
      | some a =>
        have c1 := hR'.out.cell a rfl j hks
        rw [marksI_get _ _ _ hlt] at c1
        have i1 : (j : Int) < (m : Int) := by omega
        clear hks
        go_wp2
        go_roundw
        case rel => exact ⟨j + 1, by omega, by go_num, by go_num, trivial⟩
        case measure => simp [intOf]; omega
    · have hk2 : j = m := by omega
      subst hk2
      go_wp2
      go_ret
      exact ⟨rfl, rfl⟩
end Go.Proofs.YtopenojociafaaaDoor
namespace Go.Proofs.YtopenojociafaaaDoor
open Go.RowKit
set_option linter.unusedVariables false
set_option linter.unusedSimpArgs false
/-- A slice of slices of the call's own, or nil. -/
def Rws (w : World) (base : Nat) (v : Value) (vs : List Value) : Prop := w.ownsRow base 48 1 v vs.length vs
theorem Rws.of_same {w w' : World} {base : Nat} {v : Value} {vs : List Value} (h : Rws w base v vs) (hs : ∀ j, base ≤ j → j < w.heap.size → w'.heap[j]? = w.heap[j]?) : Rws w' base v vs := by
  obtain ⟨h1, h2 | ⟨g, cap, cur, hv, hg, hh, hn, hcap, hsz, htake⟩⟩ := h
  · exact ⟨h1, .inl h2⟩
  · have hh' : Own w g cur 48 := hh
    exact ⟨h1, .inr ⟨g, cap, cur, hv, hg, (hs g hg hh'.lt).trans hh, hn, hcap, hsz, htake⟩⟩
theorem Rws.below {w w' : World} {base : Nat} {v : Value} {vs : List Value} (h : Rws w base v vs) (hb : Below w.heap.size w w') : Rws w' base v vs := h.of_same (fun j _ hj => hb.block j hj)
theorem Rws.base {w : World} {base base' : Nat} {v : Value} {vs : List Value} (h : Rws w base v vs) (hb : base' ≤ base) : Rws w base' v vs := by
  obtain ⟨h1, h2 | ⟨g, cap, cur, hv, hg, hh⟩⟩ := h
  · exact ⟨h1, .inl h2⟩
  · exact ⟨h1, .inr ⟨g, cap, cur, hv, Nat.le_trans hb hg, hh⟩⟩
theorem Rws.new (w : World) (base : Nat) (hb : base ≤ w.heap.size) : Rws (w.alloc (.cells #[] 48)) base (.slice (some ⟨w.heap.size, 0, none⟩) 0 0) [] :=
  ⟨rfl, .inr ⟨w.heap.size, 0, #[], rfl, hb, Own.new w _ _, Nat.le_refl _, by decide, rfl, rfl⟩⟩
theorem Rws.own_ty {w : World} {base : Nat} {v : Value} {vs : List Value} (h : Rws w base v vs) : ∀ r, v.ownBlock = some r → base ≤ r ∧ ∃ cs, Own w r cs 48 := by
  obtain ⟨h1, ⟨rfl, _⟩ | ⟨g, cap, cur, rfl, hg, hh, hn, hcap, hsz, htake⟩⟩ := h
  · intro r e; cases e
  · intro r e
    cases e; exact ⟨hg, _, hh⟩
/-- The whole of it, to be read. -/
theorem Rws.shape {w : World} {base : Nat} {v : Value} {vs : List Value} (h : Rws w base v vs) : (v = .slice none 0 0 ∧ vs = []) ∨ ∃ g cap, v = .slice (some ⟨g, 0, none⟩) vs.length cap ∧ base ≤ g ∧ g < w.heap.size ∧ ∀ j, j < vs.length → w.cell? ⟨g, j, none⟩ = vs[j]? := by
  obtain ⟨h1, ⟨rfl, h0⟩ | ⟨g, cap, cur, rfl, hg, hh, hn, hcap, hsz, htake⟩⟩ := h
  · exact .inl ⟨rfl, List.length_eq_zero_iff.1 h0⟩
  · have hh' : Own w g cur 48 := hh
    refine .inr ⟨g, cap, rfl, hg, hh'.lt, fun j hj => ?_⟩
    rw [hh'.cell]
    have ht : cur.toList.take vs.length = vs := by simpa using htake
    have e : (cur.toList.take vs.length)[j]? = vs[j]? := by rw [ht]
    rw [List.getElem?_take_of_lt hj] at e
    simpa using e
theorem infoR : (Tryd.prog.info? 48).map (fun i => (i.zero, i.size, i.bytes)) = some (some (.slice none 0 0), 1, 24) := by kernel_rfl
theorem wpList_append_rws {ops : Array Oper} {rest : List Oper} {o : Oper} {a : Act} {w : World} {Q : Exit → Act → World → Prop} (hgd : o.guard = none) (s x : Operand)
    (ho : o.op = .call { callee := .builtin .append, args := #[s, x], argTypes := #[22, 22] })
    (base : Nat) (v : Value) (vs : List Value) (p : Option Addr) (l k : Nat) (hs : a.eval s = v) (hi : Rws w base v vs) (ad : Addr) (c : Nat)
    (hx : a.eval x = .slice (some ad) 1 c) (hy : w.cell? ad = some (.slice p l k)) (hl : vs.length < 2097152) (hbase : base ≤ w.heap.size)
    (h : ∀ v' w', Rws w' base v' (vs ++ [.slice p l k]) → w.grownBy w' v.ownBlock → wpList Tryd.prog ops Q rest (a.put o.dst v') w') : wpList Tryd.prog ops Q (o :: rest) a w := by
  obtain ⟨i0, hi0, hz0, hz1, hz2⟩ := info_parts infoR
  refine wpList_append_own w hgd s x 22 ho base 48 i0 (.slice none 0 0) 1 24 Tryd.underlying22 hi0 hz0 hz1 hz2 rfl (by decide) _ _ _ hs hi ad 1 c [.slice p l k] hx rfl ?_ (by simp [Value.oneCell']) (by unfold maxLen; omega) (by omega) hbase ?_
  · intro j u hj
    match j, hj with
    | 0, hj =>
      simp at hj; subst hj
      have e : ad.add 0 = ad := by unfold Addr.add; split <;> simp_all
      rw [e]; exact hy
    | j + 1, hj => simp at hj
  · intro v' w' hown hgr hn
    refine h v' w' ?_ hgr
    unfold Rws
    rw [List.length_append]; exact hown
theorem Ints.rebase {w : World} {B B' g cap : Nat} {xs : List Int} (h : Ints w B g cap xs) (hb : B' ≤ B) : Ints w B' g cap xs := ⟨Nat.le_trans hb h.1, h.2⟩
end Go.Proofs.YtopenojociafaaaDoor
