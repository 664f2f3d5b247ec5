/- Slices of texts that a call hands back: as own memory, to be read; the laws' comparisons, marks and holds of them. -/
import Derived.Test.YthofkmndgedkgaaCol
import Derived.Test.YthofkmndgedkgaaMtx
import Derived.Lib.QuietBelow
import Derived.WalkSmall
import Derived.StillTailTactics
import Derived.Deep.QuietTactic
import Derived.BigQuiet
namespace Go.Proofs.Ythofkmndgedkgaa
open Go.RowKit Go.BigFrame
set_option linter.unusedVariables false
set_option linter.unusedSimpArgs false
abbrev eB : ByteArray := ByteArray.empty
/-- The texts that can be read through a slice's pointer. -/
structure SRd (w : World) (p : Option Addr) (xs : List ByteArray) : Prop where
  cell : ∀ a, p = some a → ∀ j, j < xs.length → w.cell? (a.add j) = some (.string (xs.getD j eB))
  nil : p = none → xs = []
theorem SRd.below {w w' : World} {p : Option Addr} {xs : List ByteArray} (h : SRd w p xs) (hb : Below w.heap.size w w') : SRd w' p xs := by
  refine ⟨fun a e j hj => ?_, h.nil⟩
  have hc := h.cell a e j hj
  have hlt : (a.add j).block < w.heap.size := by
    refine Decidable.byContradiction fun hn => ?_
    unfold World.cell? at hc
    rw [Array.getElem?_eq_none (by omega)] at hc
    simp at hc
  have : w'.cell? (a.add j) = w.cell? (a.add j) := by unfold World.cell?; rw [hb.block _ hlt]
  rw [this]; exact hc
def tcells (xs : List ByteArray) (sp : List Value) : Array Value := (xs.map Value.string ++ sp).toArray
theorem tcells_get (xs : List ByteArray) (sp : List Value) (j : Nat) (h : j < xs.length) : (tcells xs sp)[j]? = some (.string (xs.getD j eB)) := by
  unfold tcells
  rw [List.getElem?_toArray, List.getElem?_append_left (by simpa using h)]
  simp [h]
theorem tcells_set (xs : List ByteArray) (sp : List Value) (j : Nat) (x : ByteArray) (h : j < xs.length) : (tcells xs sp).setIfInBounds j (.string x) = tcells (xs.set j x) sp := by
  unfold tcells
  apply Array.toList_inj.1
  simp only [Array.toList_setIfInBounds]
  rw [List.set_append_left _ _ (by simpa using h), List.map_set]
/-- A slice of texts in memory of a call's own, at a block of a number at least B. -/
def TMn (w : World) (B : Nat) (p : Option Addr) (xs : List ByteArray) : Prop :=
  (p = none ∧ xs = []) ∨ ∃ (g : Nat) (sp : List Value), p = some ⟨g, 0, none⟩ ∧ B ≤ g ∧ Own w g (tcells xs sp) 9
theorem TMn.rd {w : World} {B : Nat} {p : Option Addr} {xs : List ByteArray} (h : TMn w B p xs) : SRd w p xs := by
  rcases h with ⟨rfl, rfl⟩ | ⟨g, sp, rfl, hb, ho⟩
  · exact ⟨fun a e => (by cases e), fun _ => rfl⟩
  · refine ⟨fun a e j hj => ?_, fun e => by cases e⟩
    cases e
    have : (⟨g, 0, none⟩ : Addr).add j = ⟨g, j, none⟩ := by rw [Addr.add_mid, Nat.zero_add]
    rw [this, ho.cell, tcells_get _ _ _ hj]
theorem TMn.below {w w' : World} {B B' : Nat} {p : Option Addr} {xs : List ByteArray} (h : TMn w B p xs) (hb : Below B' w w') (hs : w.heap.size ≤ B') : TMn w' B p xs := by
  rcases h with h | ⟨g, sp, rfl, hg, ho⟩
  · exact .inl h
  · exact .inr ⟨g, sp, rfl, hg, ho.below hb (Nat.lt_of_lt_of_le ho.lt hs)⟩
theorem TMn.nil (w : World) (B : Nat) : TMn w B none [] := .inl ⟨rfl, rfl⟩
theorem tcells_of (cur : Array Value) (xs : List ByteArray) (ht : cur.toList.take xs.length = xs.map Value.string) : tcells xs (cur.toList.drop xs.length) = cur := by
  unfold tcells
  rw [← ht, List.take_append_drop]
theorem TMn.strs {w : World} {B base g cap : Nat} {xs : List ByteArray} (hb : B ≤ base) (h : Strs w base g cap xs) : TMn w B (some ⟨g, 0, none⟩) xs := by
  obtain ⟨h1, h2, h3, cur, ho, hs, ht⟩ := h
  exact .inr ⟨g, cur.toList.drop xs.length, rfl, Nat.le_trans hb h1, by rw [tcells_of _ _ ht]; exact ho⟩
theorem bsl_len (L : List (List UInt8)) : (bsl L).length = L.length := by simp [bsl]
theorem hval_map (L : List (List UInt8)) : L.map hval = (bsl L).map Value.string := by simp [bsl, bsv, hval]
theorem Col.tmn {w : World} {base : Nat} {v : Value} {L : List (List UInt8)} (h : Col w base v L) : ∃ p cap, v = .slice p L.length cap ∧ TMn w base p (bsl L) := by
  obtain ⟨h1, ⟨rfl, h0⟩ | ⟨g, cap, cur, rfl, hg, hh, hn, hcap, hsz, htake⟩⟩ := h
  · have h0' : L.length = 0 := h0
    have : L = [] := List.length_eq_zero_iff.1 h0'
    subst this
    exact ⟨none, 0, rfl, TMn.nil _ _⟩
  · have ht : cur.toList.take (bsl L).length = (bsl L).map Value.string := by
      rw [← hval_map, bsl_len]; simpa using htake
    exact ⟨some ⟨g, 0, none⟩, cap, rfl, .inr ⟨g, cur.toList.drop (bsl L).length, rfl, hg, by rw [tcells_of _ _ ht]; exact hh⟩⟩
/-- A list of texts that the call has made, and a code. -/
def ResT (xs : List ByteArray) (c : Int) (w : World) (e : Ending) (w' : World) : Prop :=
  ∃ (p : Option Addr) (cap : Nat), e = .returned (.tuple #[.slice p xs.length cap, .int .i64 c]) ∧ TMn w' w.heap.size p xs ∧ Below w.heap.size w w'
/-- The marks k, k + 1, .. -/
def marksT (k : Nat) (n : Nat) : List ByteArray := (List.range n).map fun (j : Nat) => mtx (k + j)
theorem marksT_len (k : Nat) (n : Nat) : (marksT k n).length = n := by simp [marksT]
theorem marksT_get (k : Nat) (n j : Nat) (h : j < n) : (marksT k n).getD j eB = mtx (k + j) := by
  rw [List.getD_eq_getElem?_getD]; simp [marksT, h]
def mkT (k : Nat) (xs : List ByteArray) (j : Nat) : List ByteArray := marksT k j ++ xs.drop j
theorem mkT_len (k : Nat) (xs : List ByteArray) (j : Nat) (h : j ≤ xs.length) : (mkT k xs j).length = xs.length := by simp [mkT, marksT]; omega
theorem mkT_set (k : Nat) (xs : List ByteArray) (j : Nat) (h : j < xs.length) : (mkT k xs j).set j (mtx (k + j)) = mkT k xs (j + 1) := by
  unfold mkT
  rw [List.set_append_right _ _ (by rw [marksT_len]; exact Nat.le_refl _), marksT_len, Nat.sub_self, List.drop_eq_getElem_cons h, List.set_cons_zero]
  unfold marksT
  rw [List.range_succ, List.map_append]
  simp
theorem mkT_end (k : Nat) (xs : List ByteArray) : mkT k xs xs.length = marksT k xs.length := by simp [mkT]
set_option maxRecDepth 100000 in
set_option maxHeartbeats 1000000 in
theorem eqT_same (p q : Option Addr) (cap cap' : Nat) (xs : List ByteArray) (hx : xs.length ≤ 4194304) (w : World) (hR : SRd w p xs) (hQ : SRd w q xs) :
    Calls Try.prog 14 #[.slice p xs.length cap, .slice q xs.length cap'] w fun e w' => e = .returned (.bool true) ∧ Below w.heap.size w w' := by
  obtain ⟨n, hn⟩ : ∃ n, xs.length = n := ⟨_, rfl⟩
  have hR' := Lib.hid hR
  have hQ' := Lib.hid hQ
  rw [hn] at hx ⊢
  have hN := Lib.hid hn
  clear hR hQ hn
  go_enter Try.func14, Try.ntmps14
  go_wp2
  go_loopw [5] (fun i wr => ∃ k : Nat, k ≤ n ∧ i = .int .i64 k ∧ Below w.heap.size w wr) (fun i _ => ((n : Int) - intOf i).toNat)
  case atStart => exact ⟨0, by omega, rfl, Below.refl _ _⟩
  case round =>
    obtain ⟨k, hk, rfl, hB⟩ := hrel
    by_cases hlt : k < n
    · cases p with
      | none => exfalso; have h1 := hR'.out.nil rfl; have h2 := hN.out; rw [h1] at h2; simp at h2; omega
      | some a =>
        cases q with
        | none => exfalso; have h1 := hQ'.out.nil rfl; have h2 := hN.out; rw [h1] at h2; simp at h2; omega
        | some b =>
          have c1 := (hR'.out.below hB).cell a rfl k (by rw [hN.out]; exact hlt)
          have c2 := (hQ'.out.below hB).cell b rfl k (by rw [hN.out]; exact hlt)
          obtain ⟨s, hs⟩ : ∃ s, xs.getD k eB = s := ⟨_, rfl⟩
          rw [hs] at c1 c2
          clear hs
          have i1 : (k : Int) < (n : Int) := by omega
          go_wp2
          go_quiet (fail)
          go_wp2
          go_roundw
          case rel => exact ⟨k + 1, by omega, by go_num, Below.drewN hB _⟩
          case measure => simp [intOf]; omega
    · have hk2 : k = n := by omega
      subst hk2
      go_wp2
      go_ret
      exact ⟨rfl, hB⟩
set_option maxRecDepth 100000 in
set_option maxHeartbeats 1000000 in
theorem markT_any (B : Nat) (p : Option Addr) (cap : Nat) (xs : List ByteArray) (hx : xs.length ≤ 1048576) (k : Nat) (k0 : 1 ≤ k) (k2 : k ≤ 1048576) (w : World) (hM : TMn w B p xs) (hB : B ≤ w.heap.size) :
    Calls Try.prog 15 #[.slice p xs.length cap, .int .i64 k] w fun e w' => e = .returned (.int .i64 ((k : Int) + xs.length)) ∧ TMn w' B p (marksT k xs.length) ∧ Below B w w' := by
  rcases hM with ⟨rfl, rfl⟩ | ⟨g, sp, rfl, hg, ho⟩
  · go_enter Try.func15, Try.ntmps15
    go_wp2
    go_loopw [1, 5] (fun q i wr => i = .int .i64 0 ∧ q = .int .i64 k ∧ wr = w) (fun _ i _ => 0)
    case atStart => exact ⟨rfl, rfl, rfl⟩
    case round =>
      obtain ⟨rfl, rfl, rfl⟩ := hrel
      go_wp2
      go_ret
      exact ⟨by simp, TMn.nil _ _, Below.refl _ _⟩
  · obtain ⟨m, hm⟩ : ∃ m, xs.length = m := ⟨_, rfl⟩
    have hN := Lib.hid hm
    have h0 := Lib.hid (show tcells xs sp = tcells (mkT k xs 0) sp by simp [mkT, marksT])
    rw [hm] at hx ⊢
    clear hm
    go_enter Try.func15, Try.ntmps15
    go_wp2
    go_loopw [1, 5] (fun q i wr => ∃ j : Nat, j ≤ m ∧ i = .int .i64 j ∧ q = .int .i64 ((k : Int) + j) ∧ Own wr g (tcells (mkT k xs j) sp) 9 ∧ Below B w wr) (fun _ i _ => ((m : Int) - intOf i).toNat)
    case atStart => exact ⟨0, by omega, rfl, by simp, by rw [← h0.out]; exact ho, Below.refl _ _⟩
    case round =>
      obtain ⟨j, hj, rfl, rfl, hO, hBB⟩ := hrel
      have hll := mkT_len k xs j (by rw [hN.out]; exact hj)
      by_cases hlt : j < m
      · have hks : j < xs.length := by have := hN.out; omega
        have i1 : (j : Int) < (m : Int) := by omega
        have hT2 : ∀ w, Calls Try.prog 68 #[.int .i64 ((k : Int) + j)] w fun e w' => e = .returned (.string (mtx (k + j))) ∧ Below w.heap.size w w' := fun w => by
          have := mtx_any (k + j) (by omega) (by omega) w
          rwa [show ((k + j : Nat) : Int) = (k : Int) + j by omega] at this
        have hT2 := Lib.hid hT2
        have HO := Lib.hid hO
        have hset := Lib.hid (mkT_set k xs j hks)
        have hll2 := Lib.hid (show j < (mkT k xs j).length by omega)
        have hlt0 := hO.lt
        clear hO hll
        go_wp2_with (first
          | (go_at_call 68; ((with_reducible refine (hT2.out _).mono ?_); rintro e w3 ⟨rfl, hB3⟩; have hO3 := HO.out.below hB3 hlt0; have c2 := hO3.cell j; rw [tcells_get _ _ _ hll2.out] at c2; have f2 := hO3.free j; have hO4 := hO3.set j (.string (mtx (k + j))); rw [tcells_set _ _ _ _ hll2.out, hset.out] at hO4; have K1 := Lib.hid hO4; clear hO4 hO3)))
        go_roundw
        case rel => exact ⟨j + 1, by omega, by go_num, by go_num, K1.out, (hBB.trans (hB3.mono (Nat.le_trans hB hBB.size))).setCell (p := ⟨g, j, none⟩) hg _⟩
        case measure => simp [intOf]; omega
      · have hk2 : j = m := by omega
        subst hk2
        have e : mkT k xs j = marksT k j := by rw [← hN.out]; exact mkT_end k xs
        rw [e] at hO
        clear e hll
        go_wp2
        go_ret
        exact ⟨rfl, .inr ⟨g, sp, rfl, hg, hO⟩, hBB⟩
set_option maxRecDepth 100000 in
set_option maxHeartbeats 1000000 in
theorem heldT_any (p : Option Addr) (cap : Nat) (m : Nat) (hx : m ≤ 1048576) (k : Nat) (k0 : 1 ≤ k) (k2 : k ≤ 1048576) (w : World) (hR : SRd w p (marksT k m)) :
    Calls Try.prog 16 #[.slice p m cap, .int .i64 k] w fun e w' => e = .returned (.int .i64 ((k : Int) + m)) ∧ Below w.heap.size w w' := by
  have hR' := Lib.hid hR
  clear hR
  go_enter Try.func16, Try.ntmps16
  go_wp2
  go_loopw [1, 5] (fun q i wr => ∃ j : Nat, j ≤ m ∧ i = .int .i64 j ∧ q = .int .i64 ((k : Int) + j) ∧ Below w.heap.size w wr) (fun _ i _ => ((m : Int) - intOf i).toNat)
  case atStart => exact ⟨0, by omega, rfl, by simp, Below.refl _ _⟩
  case round =>
    obtain ⟨j, hj, rfl, rfl, hB⟩ := hrel
    by_cases hlt : j < m
    · have hks : j < (marksT k m).length := by rw [marksT_len]; exact hlt
      cases p with
      | none => have := hR'.out.nil rfl; rw [this] at hks; simp at hks
      | some a =>
        have c1 := (hR'.out.below hB).cell a rfl j hks
        rw [marksT_get _ _ _ hlt] at c1
        have hT2 : ∀ w, Calls Try.prog 68 #[.int .i64 ((k : Int) + j)] w fun e w' => e = .returned (.string (mtx (k + j))) ∧ Below w.heap.size w w' := fun w => by
          have := mtx_any (k + j) (by omega) (by omega) w
          rwa [show ((k + j : Nat) : Int) = (k : Int) + j by omega] at this
        obtain ⟨s, hs⟩ : ∃ s, mtx (k + j) = s := ⟨_, rfl⟩
        rw [hs] at c1
        simp only [hs] at hT2
        have i1 : (j : Int) < (m : Int) := by omega
        have x0 := fun d os => cell_regrown c1 d os
        have ci : ∀ d os, Calls Try.prog 68 #[.int .i64 ((k : Int) + j)] (Sort.grow (redrawn wr d) os) fun e w'' => e = .returned (.string s) ∧ ∃ p : Regrown, w'' = Sort.grow (redrawn wr p.d) p.os := fun d os => Calls.regrown_of (hT2 _)
        clear hks hT2 hs
        go_wp2
        refine wp_region_quiet_below (by kernel_rfl) (by kernel_rfl) ?_
        iterate 7 (go_big_quiet_step (first | exact ci _ _))
        refine wpQuiet_nil ?_
        intro _ hw'
        obtain ⟨⟨dq, osq⟩, hw''⟩ := hw'
        subst hw''
        have b3 := hB.trans ((below_regrown wr dq osq).mono hB.size)
        go_wp2
        go_roundw
        case rel => exact ⟨j + 1, by omega, by go_num, by go_num, b3⟩
        case measure => simp [intOf]; omega
    · have hk2 : j = m := by omega
      subst hk2
      go_wp2
      go_ret
      exact ⟨rfl, hB⟩
end Go.Proofs.Ythofkmndgedkgaa
