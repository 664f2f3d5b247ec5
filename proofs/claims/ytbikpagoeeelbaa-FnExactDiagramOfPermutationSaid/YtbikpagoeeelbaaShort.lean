/- Contracts of the program's looking for an entry. -/
import Derived.Test.YtbikpagoeeelbaaWordI
namespace Go.Proofs.Ytbikpagoeeelbaa
open Go.RowKit
set_option linter.unusedVariables false
theorem shortC1_enters (args : Array Value) (w : World) : (callFunc 72 args).run Try.prog w = .ok (.enter 72 args) w := by kernel_rfl
theorem shortC2_enters (args : Array Value) (w : World) : (callFunc 73 args).run Try.prog w = .ok (.enter 73 args) w := by kernel_rfl
set_option maxRecDepth 100000 in
theorem shortC1_any (x m : Int) (b : Nat) (w : World) (ho : Own w b #[.int .i64 m] 2) :
    Calls Try.prog 72 #[.int .i64 x, .pointer (some ⟨b, 0, none⟩)] w fun e w' => e = .returned (.bool (decide (m < x))) ∧ w' = w := by
  have c := ho.cell 0
  have c1 : w.cell? ⟨b, 0, none⟩ = some (.int .i64 m) := c
  clear c
  go_enter Try.func72, Try.ntmps72
  go_wp2
  go_ret
  exact ⟨by simp, rfl⟩
set_option maxRecDepth 100000 in
theorem shortC2_any (x m : Int) (b : Nat) (w : World) (ho : Own w b #[.int .i64 m] 2) :
    Calls Try.prog 73 #[.int .i64 x, .pointer (some ⟨b, 0, none⟩)] w fun e w' => e = .returned (.bool (decide (x < m))) ∧ w' = w := by
  have c := ho.cell 0
  have c1 : w.cell? ⟨b, 0, none⟩ = some (.int .i64 m) := c
  clear c
  go_enter Try.func73, Try.ntmps73
  go_wp2
  go_ret
  exact ⟨by simp, rfl⟩
set_option maxRecDepth 100000 in
set_option maxHeartbeats 1000000 in
theorem indexF_any (K : Nat) (cap : Array Value) (f : Int → Bool) (p : Option Addr) (c : Nat) (xs : List Int) (w : World) (hx : xs.length ≤ 1048576) (hR : Rd w p xs)
    (hE : ∀ (args : Array Value) (w : World), (callFunc K args).run Try.prog w = .ok (.enter K args) w)
    (hK : ∀ x, Calls Try.prog K (#[.int .i64 x] ++ cap) w fun e w' => e = .returned (.bool (f x)) ∧ w' = w) :
    Calls Try.prog 86 #[.slice p xs.length c, .func (.func K) #[] cap] w fun e w' => (∃ r : Int, e = .returned (.int .i64 r) ∧ -1 ≤ r ∧ (0 ≤ r ↔ xs.any f = true)) ∧ w' = w := by
  obtain ⟨m, hm⟩ : ∃ m, xs.length = m := ⟨_, rfl⟩
  have hR' := Lib.hid hR
  have hN := Lib.hid hm
  have hK' := Lib.hid hK
  rw [hm] at hx ⊢
  clear hR hm hK
  go_enter Try.func86, Try.ntmps86
  go_wp2
  go_loopw [8] (fun i wr => ∃ k : Nat, k ≤ m ∧ i = .int .i64 k ∧ Hid ((xs.take k).any f = false) ∧ wr = w) (fun i _ => ((m : Int) - intOf i).toNat)
  case atStart => exact ⟨0, by omega, rfl, Lib.hid (by simp), rfl⟩
  case round =>
    obtain ⟨k, hk, rfl, hA, rfl⟩ := hrel
    by_cases hlt : k < m
    · have hks : k < xs.length := by have := hN.out; omega
      obtain ⟨a, rfl⟩ := rd_some hR'.out hks
      have c1 := hR'.out.cell a rfl k hks
      obtain ⟨x, hxx⟩ : ∃ x, xs.getD k 0 = x := ⟨_, rfl⟩
      rw [hxx] at c1
      have hmem : x ∈ xs := by rw [← hxx, List.getD_eq_getElem?_getD, List.getElem?_eq_getElem hks]; exact List.getElem_mem hks
      have htk : xs.take (k + 1) = xs.take k ++ [x] := by rw [List.take_succ_eq_append_getElem hks, ← hxx, List.getD_eq_getElem?_getD, List.getElem?_eq_getElem hks]; rfl
      have hst := Lib.hid (show (xs.take (k + 1)).any f = f x by rw [htk, List.any_append, hA.out]; simp)
      have i1 : (k : Int) < (m : Int) := by omega
      have hq := Lib.hid (hK'.out x)
      have hmm := Lib.hid hmem
      obtain ⟨b, hb⟩ : ∃ b, f x = b := ⟨_, rfl⟩
      rw [hb] at hq hst
      have hfb := Lib.hid hb
      clear hxx hmem htk hb
      cases b with
      | true =>
        go_wp2_with (first
          | ((refine (hq.out).mono ?_); rintro e w1 ⟨rfl, rfl⟩))
        go_ret
        refine ⟨⟨k, rfl, by omega, ?_⟩, rfl⟩
        simp only [Int.natCast_nonneg, true_iff, List.any_eq_true]
        exact ⟨x, hmm.out, hfb.out⟩
      | false =>
        go_wp2_with (first
          | ((refine (hq.out).mono ?_); rintro e w1 ⟨rfl, rfl⟩))
        go_roundw
        case rel => exact ⟨k + 1, by omega, by go_num, hst, trivial⟩
        case measure => simp [intOf]; omega
    · have hk2 : k = m := by omega
      subst hk2
      have e : xs.any f = false := by have := hA.out; rwa [List.take_of_length_le (by rw [hN.out]; exact Nat.le_refl _)] at this
      have e' := Lib.hid e
      clear e
      go_wp2
      go_ret
      exact ⟨⟨-1, rfl, by omega, by rw [e'.out]; simp⟩, rfl⟩
set_option maxRecDepth 100000 in
theorem containsF_any (K : Nat) (cap : Array Value) (f : Int → Bool) (p : Option Addr) (c : Nat) (xs : List Int) (m : Nat) (hm : xs.length = m) (w : World) (hx : m ≤ 1048576) (hR : Rd w p xs)
    (hE : ∀ (args : Array Value) (w : World), (callFunc K args).run Try.prog w = .ok (.enter K args) w)
    (hK : ∀ x, Calls Try.prog K (#[.int .i64 x] ++ cap) w fun e w' => e = .returned (.bool (f x)) ∧ w' = w) :
    Calls Try.prog 71 #[.slice p m c, .func (.func K) #[] cap] w fun e w' => e = .returned (.bool (xs.any f)) ∧ w' = w := by
  have hi := indexF_any K cap f p c xs w (by omega) hR hE hK
  rw [hm] at hi
  have hi' := Lib.hid hi
  obtain ⟨b, hb⟩ : ∃ b, xs.any f = b := ⟨_, rfl⟩
  rw [hb] at hi' ⊢
  clear hi hR hK hb
  cases b with
  | true =>
    have hq := Lib.hid (hi'.out.mono fun e w' h => (show (∃ r : Int, e = .returned (.int .i64 r) ∧ 0 ≤ r) ∧ w' = w from by obtain ⟨⟨r, h1, h2, h3⟩, h4⟩ := h; exact ⟨⟨r, h1, h3.2 rfl⟩, h4⟩))
    clear hi'
    go_enter Try.func71, Try.ntmps71
    go_wp2_with (first
      | (go_at_call 86; ((with_reducible refine (hq.out).mono ?_); rintro e w1 ⟨⟨r, rfl, hr1⟩, rfl⟩)))
    go_ret
    exact ⟨by simp, rfl⟩
  | false =>
    have hq := Lib.hid (hi'.out.mono fun e w' h => (show (∃ r : Int, e = .returned (.int .i64 r) ∧ r < 0) ∧ w' = w from by obtain ⟨⟨r, h1, h2, h3⟩, h4⟩ := h; exact ⟨⟨r, h1, Int.not_le.1 fun h => by cases h3.1 h⟩, h4⟩))
    clear hi'
    go_enter Try.func71, Try.ntmps71
    go_wp2_with (first
      | (go_at_call 86; ((with_reducible refine (hq.out).mono ?_); rintro e w1 ⟨⟨r, rfl, hr1⟩, rfl⟩)))
    go_ret
    exact ⟨by simp; omega, rfl⟩
theorem add_add (a : Addr) (k j : Nat) : (a.add k).add j = a.add (k + j) := by
  unfold Addr.add
  by_cases h1 : k = 0
  · subst h1; simp
  · by_cases h2 : j = 0
    · subst h2; simp [h1]
    · rw [if_neg h1, if_neg h2, if_neg (by omega)]
      simp [Nat.add_assoc]
theorem Rd.take {w : World} {p : Option Addr} {xs : List Int} (h : Rd w p xs) (k : Nat) : Rd w p (xs.take k) := by
  refine ⟨fun a e j hj => ?_, fun e => by rw [h.nil e]; simp⟩
  simp only [List.length_take] at hj
  rw [h.cell a e j (by omega), List.getD_eq_getElem?_getD, List.getD_eq_getElem?_getD, List.getElem?_take_of_lt (by omega)]
theorem Rd.drop {w : World} {a : Addr} {xs : List Int} (h : Rd w (some a) xs) (k : Nat) : Rd w (some (a.add k)) (xs.drop k) := by
  refine ⟨fun b e j hj => ?_, fun e => by cases e⟩
  cases e
  simp only [List.length_drop] at hj
  rw [add_add, h.cell a rfl (k + j) (by omega), List.getD_eq_getElem?_getD, List.getD_eq_getElem?_getD, List.getElem?_drop]
/-- No three entries descend. -/
def ShortP (xs : List Int) : Prop := ∀ i j k : Nat, i < j → j < k → k < xs.length → ¬ (xs.getD j 0 < xs.getD i 0 ∧ xs.getD k 0 < xs.getD j 0)
/-- The entry at j has a greater one ahead of it and a lesser one behind it. -/
def badAt (xs : List Int) (j : Nat) : Bool := (xs.take j).any (fun x => decide (xs.getD j 0 < x)) && (xs.drop j).any (fun x => decide (x < xs.getD j 0))
theorem badAt_iff (xs : List Int) (j : Nat) (hj : j < xs.length) : badAt xs j = true ↔ ∃ i k, i < j ∧ j < k ∧ k < xs.length ∧ xs.getD j 0 < xs.getD i 0 ∧ xs.getD k 0 < xs.getD j 0 := by
  unfold badAt
  rw [Bool.and_eq_true, List.any_eq_true, List.any_eq_true]
  constructor
  · rintro ⟨⟨x, hx, h1⟩, ⟨y, hy, h2⟩⟩
    simp at h1 h2
    obtain ⟨i, hi, rfl⟩ := List.getElem_of_mem hx
    obtain ⟨k, hk, rfl⟩ := List.getElem_of_mem hy
    simp only [List.length_take, List.length_drop] at hi hk
    have e1 : (xs.take j)[i]'(by simp; omega) = xs.getD i 0 := by rw [List.getElem_take, List.getD_eq_getElem?_getD, List.getElem?_eq_getElem (by omega)]; rfl
    have e2 : (xs.drop j)[k]'(by simp; omega) = xs.getD (j + k) 0 := by rw [List.getElem_drop, List.getD_eq_getElem?_getD, List.getElem?_eq_getElem (by omega)]; rfl
    have h1' : xs.getD j 0 < xs.getD i 0 := by rw [← e1]; simpa using h1
    have h2' : xs.getD (j + k) 0 < xs.getD j 0 := by rw [← e2]; simpa using h2
    refine ⟨i, j + k, by omega, ?_, by omega, h1', h2'⟩
    refine Nat.lt_of_le_of_ne (by omega) fun e => ?_
    rw [← e] at h2'; omega
  · rintro ⟨i, k, hi, hk, hkl, h1, h2⟩
    refine ⟨⟨xs.getD i 0, ?_, by simpa using h1⟩, ⟨xs.getD k 0, ?_, by simpa using h2⟩⟩
    · rw [List.getD_eq_getElem?_getD, List.getElem?_eq_getElem (by omega)]
      exact List.mem_take_iff_getElem.2 ⟨i, by omega, rfl⟩
    · rw [List.getD_eq_getElem?_getD, List.getElem?_eq_getElem hkl]
      refine List.mem_drop_iff_getElem.2 ⟨k - j, by omega, ?_⟩
      congr 1; omega
theorem short_of (xs : List Int) (h : ∀ j, j < xs.length → badAt xs j = false) : ShortP xs := by
  intro i j k hi hj hk hh
  have := h j (by omega)
  rw [← Bool.not_eq_true, badAt_iff _ _ (by omega)] at this
  exact this ⟨i, k, hi, hj, hk, hh⟩
theorem short_no (xs : List Int) (j : Nat) (hj : j < xs.length) (h : badAt xs j = true) : ¬ ShortP xs := by
  obtain ⟨i, k, a, b, c, d⟩ := (badAt_iff xs j hj).1 h
  exact fun hs => hs i j k a b c d
set_option maxRecDepth 100000 in
set_option maxHeartbeats 1000000 in
theorem shortI_any (p : Option Addr) (cap : Nat) (xs : List Int) (hx : xs.length ≤ 8) (hcap : xs.length ≤ cap) (w : World) (hR : Rd w p xs) :
    Calls Try.prog 59 #[.slice p xs.length cap] w fun e w' => (∃ b : Bool, e = .returned (.bool b) ∧ (b = true ↔ ShortP xs)) ∧ Below w.heap.size w w' := by
  obtain ⟨m, hm⟩ : ∃ m, xs.length = m := ⟨_, rfl⟩
  have hR' := Lib.hid hR
  have hN := Lib.hid hm
  rw [hm] at hx hcap ⊢
  clear hR hm
  go_enter Try.func59, Try.ntmps59
  go_wp2
  go_loopw [9] (fun i wr => ∃ k : Nat, k ≤ m ∧ i = .int .i64 k ∧ Hid (∀ j, j < k → badAt xs j = false) ∧ Below w.heap.size w wr) (fun i _ => ((m : Int) - intOf i).toNat)
  case atStart => exact ⟨0, by omega, rfl, Lib.hid (fun j hj => absurd hj (by omega)), Below.refl _ _⟩
  case round =>
    obtain ⟨k, hk, rfl, hA, hB⟩ := hrel
    by_cases hlt : k < m
    · have hks : k < xs.length := by have := hN.out; omega
      obtain ⟨a, rfl⟩ := rd_some hR'.out hks
      have hRw := hR'.out.below hB
      have c1 := hRw.cell a rfl k hks
      have hbad := Lib.hid (show badAt xs k = ((xs.take k).any (fun x => decide (xs.getD k 0 < x)) && (xs.drop k).any (fun x => decide (x < xs.getD k 0))) from rfl)
      obtain ⟨x, hxx⟩ : ∃ x, xs.getD k 0 = x := ⟨_, rfl⟩
      rw [hxx] at c1 hbad
      have i1 : (k : Int) < (m : Int) := by omega
      have icap : (m : Int) ≤ (cap : Int) := by omega
      have hsz := hB.size
      have hO : Own (wr.alloc (.cells #[.int .i64 x] 2)) wr.heap.size #[.int .i64 x] 2 := Own.new _ _ _
      have hBx : Below w.heap.size w (wr.alloc (.cells #[.int .i64 x] 2)) := hB.alloc hsz _
      have hRx := hR'.out.below hBx
      have q1 := containsF_any 72 #[.pointer (some ⟨wr.heap.size, 0, none⟩)] (fun y => decide (x < y)) (some a) cap (xs.take k) k (by rw [List.length_take]; omega) _ (by omega) (hRx.take k) shortC1_enters (fun y => shortC1_any y x _ _ hO)
      have q2 := containsF_any 73 #[.pointer (some ⟨wr.heap.size, 0, none⟩)] (fun y => decide (y < x)) (some (a.add k)) (cap - k) (xs.drop k) (m - k) (by rw [List.length_drop, hN.out]) _ (by omega) (hRx.drop k) shortC2_enters (fun y => shortC2_any y x _ _ hO)
      obtain ⟨b1, hb1⟩ : ∃ b, (xs.take k).any (fun y => decide (x < y)) = b := ⟨_, rfl⟩
      obtain ⟨b2, hb2⟩ : ∃ b, (xs.drop k).any (fun y => decide (y < x)) = b := ⟨_, rfl⟩
      rw [hb1] at q1
      rw [hb2] at q2
      have Q1 := Lib.hid q1
      have Q2 := Lib.hid q2
      have hbad2 := Lib.hid (show badAt xs k = (b1 && b2) by rw [hbad.out, hb1, hb2])
      have K2 := Lib.hid hBx
      clear hO hBx hRx hxx hRw q1 q2 hb1 hb2 hbad
      have go : (b1 && b2) = false → ∀ j, j < k + 1 → badAt xs j = false := fun h j hj => by
        by_cases e : j = k
        · rw [e, hbad2.out]; exact h
        · exact hA.out j (by omega)
      cases hbb : (b1 && b2) with
      | true =>
        have e1 : b1 = true := by cases b1 <;> simp_all
        have e2 : b2 = true := by cases b2 <;> simp_all
        subst e1 e2
        have hno := Lib.hid (short_no xs k hks hbad2.out)
        clear go hA hbb hbad2
        go_wp2_with (first
          | (go_at_call 71; ((with_reducible refine (Q1.out).mono ?_); rintro e w1 ⟨rfl, hw1⟩))
          | (go_at_call 71; ((with_reducible refine (Q2.out).mono ?_); rintro e w2 ⟨rfl, hw2⟩)))
        go_ret
        exact ⟨⟨false, rfl, by simp; exact hno.out⟩, K2.out⟩
      | false =>
        have GO := Lib.hid (go hbb)
        clear go hA hbad2
        cases b1 <;> cases b2
        case true.true => cases hbb
        all_goals
          clear hbb
          go_wp2_with (first
          | (go_at_call 71; ((with_reducible refine (Q1.out).mono ?_); rintro e w1 ⟨rfl, hw1⟩))
          | (go_at_call 71; ((with_reducible refine (Q2.out).mono ?_); rintro e w2 ⟨rfl, hw2⟩)))
          go_roundw
          case rel => exact ⟨k + 1, by omega, by go_num, GO, K2.out⟩
          case measure => simp [intOf]; omega
    · have hk2 : k = m := by omega
      subst hk2
      go_wp2
      go_ret
      exact ⟨⟨true, rfl, by simp; exact short_of xs (by rw [hN.out]; exact hA.out)⟩, hB⟩
end Go.Proofs.Ytbikpagoeeelbaa
