/- Equality of arches; orders: the program's. -/
import Derived.Test.YtbpecjfiilkobaaApa
import Derived.Test.YtbpecjfiilkobaaStx
import Derived.BigQuiet
namespace Go.Proofs.Ytbpecjfiilkobaa
open Go.RowKit
set_option linter.unusedVariables false
set_option linter.unusedSimpArgs false
set_option maxRecDepth 100000 in
set_option maxHeartbeats 1000000 in
theorem eqA_any (p q : Option Addr) (cp cq : Nat) (xs ys : List Int) (n m : Nat) (hn : xs.length = n) (hm : ys.length = m) (hx : n ≤ 1048576) (w : World) (hR : Rd w p xs) (hQ : Rd w q ys) :
    Calls Try.prog 18 #[.slice p n cp, .slice q m cq] w fun e w' => e = .returned (.bool (decide (xs = ys))) ∧ Below w.heap.size w w' := by
  by_cases hnm : n = m
  · subst hnm
    obtain ⟨b, hb⟩ : ∃ b : Bool, decide (xs = ys) = b := ⟨_, rfl⟩
    rw [hb]
    have hb' := Lib.hid hb
    have hR' := Lib.hid hR
    have hQ' := Lib.hid hQ
    have hN := Lib.hid hn
    have hM := Lib.hid hm
    clear hb hR hQ hn hm
    go_enter Try.func18, Try.ntmps18
    go_wp2
    go_loopw [13] (fun i wr => ∃ (k : Nat), k ≤ n ∧ i = .int .i64 k ∧ Hid (∀ j, j < k → xs.getD j 0 = ys.getD j 0) ∧ Below w.heap.size w wr) (fun i _ => ((n : Int) - intOf i).toNat)
    case atStart => exact ⟨0, by omega, rfl, Lib.hid (fun j h => by omega), Below.refl _ _⟩
    case round =>
      obtain ⟨k, hk, rfl, hD, hB⟩ := hrel
      by_cases hlt : k < n
      · have hks : k < xs.length := by have := hN.out; omega
        have hkt : k < ys.length := by have := hM.out; omega
        obtain ⟨a, rfl⟩ := rd_some hR'.out hks
        obtain ⟨a2, rfl⟩ := rd_some hQ'.out hkt
        have c1 := (hR'.out.below hB).cell a rfl k hks
        have c2 := (hQ'.out.below hB).cell a2 rfl k hkt
        have i1 : (k : Int) < (n : Int) := by omega
        obtain ⟨x, hxx⟩ : ∃ x, xs.getD k 0 = x := ⟨_, rfl⟩
        obtain ⟨y, hyy⟩ : ∃ y, ys.getD k 0 = y := ⟨_, rfl⟩
        rw [hxx] at c1
        rw [hyy] at c2
        by_cases e : x = y
        · have hD2 := Lib.hid (show ∀ j, j < k + 1 → xs.getD j 0 = ys.getD j 0 from fun j hj => by
            by_cases h : j = k
            · subst h; rw [hxx, hyy, e]
            · exact hD.out j (by omega))
          have hne : (x != y) = false := by simp [e]
          subst e
          clear hxx hyy hD
          go_wp2
          go_quiet (fail)
          go_wp2
          go_roundw
          case rel => exact ⟨k + 1, by omega, by go_num, hD2, Below.drewN hB _⟩
          case measure => simp [intOf]; omega
        · have hbf : b = false := by
            rw [← hb'.out]
            simp only [decide_eq_false_iff_not]
            intro h
            rw [h, hyy] at hxx
            exact e hxx.symm
          subst hbf
          have hne : (x != y) = true := by simpa using e
          clear hxx hyy hD e
          go_wp2
          go_quiet (fail)
          go_wp2
          go_ret
          exact ⟨rfl, Below.drewN hB _⟩
      · have hk2 : k = n := by omega
        subst hk2
        have hbt : b = true := by
          rw [← hb'.out]
          simp only [decide_eq_true_iff]
          exact gext (by rw [hN.out, hM.out]) (fun j hj => hD.out j (by rw [hN.out] at hj; exact hj))
        subst hbt
        go_wp2
        go_ret
        exact ⟨rfl, hB⟩
  · have hb : decide (xs = ys) = false := by
      simp only [decide_eq_false_iff_not]
      intro h
      rw [h] at hn; omega
    rw [hb]
    have hne : ((n : Int) != (m : Int)) = true := by simp; omega
    clear hb hn hm hR hQ hnm
    go_enter Try.func18, Try.ntmps18
    go_wp2
    go_ret
    exact ⟨rfl, Below.refl _ _⟩
set_option maxRecDepth 100000 in
theorem crossI_any (xs : List Int) (n : Nat) (hn : xs.length = n) (h2 : 2 ≤ n) (h12 : n ≤ 12) (g : Nat) (w : World) (hO : Own w g (icells xs) 2) :
    Calls Try.prog 12 #[.slice (some ⟨g, 0, none⟩) n n] w fun e w' => e = .returned (.bool (crossB xs)) ∧ Below w.heap.size w w' := by
  have hT := Lib.hid (atxI_any xs n hn h12 g w hO)
  have hg := hO.lt
  have HO := Lib.hid hO
  have hsz : (strT xs n).size ≤ 1048576 := by rw [strT_size]; omega
  have hcr : crossB xs = (match sarc (txt xs n) with | some o => !decide (o.take n = xs) | none => true) := by unfold crossB; rw [hn]; cases sarc (txt xs n) <;> simp
  have hL := Lib.hid hn
  cases hs : sarc (txt xs n) with
  | none =>
    rw [hs] at hcr
    simp only at hcr
    rw [hcr]
    have hc := Lib.hid (fun w => ari_no (strT xs n) w hsz (by rw [strT_list]; exact hs))
    have hE := Lib.hid (fun wc (h : Below w.heap.size w wc) => eqA_any none (some ⟨g, 0, none⟩) 0 n [] xs 0 n rfl hn (by omega) wc ⟨fun a e => (by cases e), fun _ => rfl⟩ (Rd.own (hO.below h hg)))
    have hne : decide (([] : List Int) = xs) = false := by
      simp only [decide_eq_false_iff_not]
      intro h; rw [← h] at hn; simp at hn; omega
    rw [hne] at hE
    clear hcr hs hn hO hne
    go_enter Try.func12, Try.ntmps12
    go_wp2_with (first
      | (go_at_call 13; ((with_reducible refine (hT.out).mono ?_); rintro e w1 ⟨rfl, hB1⟩))
      | (go_at_call 17; ((with_reducible refine (hc.out w1).mono ?_); rintro e w2 ⟨rfl, hB2⟩))
      | (go_at_call 18; ((with_reducible refine (hE.out w2 (hB1.trans (hB2.mono hB1.size))).mono ?_); rintro e w3 ⟨rfl, hB3⟩)))
    go_ret
    have b2 := hB1.trans (hB2.mono hB1.size)
    exact ⟨rfl, b2.trans (hB3.mono b2.size)⟩
  | some o =>
    rw [hs] at hcr
    simp only at hcr
    rw [hcr]
    have S := sarc_sys hs
    rw [txt_len] at S
    have hc := fun w => ari_yes (strT xs n) w hsz o (by rw [strT_list]; exact hs)
    rw [strT_size] at hc
    have hc := Lib.hid hc
    have hE := Lib.hid (fun g2 wc (h : Below w.heap.size w wc) (h2 : Own wc g2 (icells (o.take n)) 2) => eqA_any (some ⟨g2, 0, none⟩) (some ⟨g, 0, none⟩) n n (o.take n) xs n n (by rw [List.length_take, S.len]; omega) hn (by omega) wc (Rd.own h2) (Rd.own (hO.below h hg)))
    obtain ⟨b, hb⟩ : ∃ b : Bool, decide (o.take n = xs) = b := ⟨_, rfl⟩
    rw [hb] at hE ⊢
    clear hcr hs hn hO hb S
    go_enter Try.func12, Try.ntmps12
    go_wp2_with (first
      | (go_at_call 13; ((with_reducible refine (hT.out).mono ?_); rintro e w1 ⟨rfl, hB1⟩))
      | (go_at_call 17; ((with_reducible refine (hc.out w1).mono ?_); rintro e w2 ⟨g2, hg2, rfl, hO2, hB2⟩))
      | (go_at_call 18; ((with_reducible refine (hE.out g2 w2 (hB1.trans (hB2.mono hB1.size)) hO2).mono ?_); rintro e w3 ⟨rfl, hB3⟩)))
    go_ret
    have b2 := hB1.trans (hB2.mono hB1.size)
    exact ⟨rfl, b2.trans (hB3.mono b2.size)⟩
/-- A list is an order. -/
def ordB (xs : List Int) : Bool := decide (xs.length % 2 = 0 ∧ 2 ≤ xs.length ∧ xs.length ≤ 12) && (xs.getD 0 0 == 0) && eachN xs.length xs (List.replicate xs.length false)
set_option maxRecDepth 100000 in
theorem ordI_any (p : Option Addr) (cap : Nat) (xs : List Int) (n : Nat) (hn : xs.length = n) (hx : n ≤ 1048576) (w : World) (hR : Rd w p xs) :
    Calls Try.prog 10 #[.slice p n cap] w fun e w' => e = .returned (.bool (ordB xs)) ∧ Below w.heap.size w w' := by
  have hE := Lib.hid (fun wc (h : Below w.heap.size w wc) => eachI_any p cap xs n hn hx wc (hR.below h))
  have hO : ordB xs = (decide (n % 2 = 0 ∧ 2 ≤ n ∧ n ≤ 12) && (xs.getD 0 0 == 0) && eachN n xs (List.replicate n false)) := by unfold ordB; rw [hn]
  rw [hO]
  by_cases hl : n % 2 = 0 ∧ 2 ≤ n ∧ n ≤ 12
  · obtain ⟨l1, l2, l3⟩ := hl
    rw [decide_eq_true ⟨l1, l2, l3⟩, Bool.true_and]
    obtain ⟨a, rfl⟩ := rd_some hR (show 0 < xs.length by omega)
    have c1 := hR.cell a rfl 0 (by omega)
    rw [show a.add 0 = a by unfold Addr.add; split <;> simp_all] at c1
    obtain ⟨x, hxx⟩ : ∃ x, xs.getD 0 0 = x := ⟨_, rfl⟩
    rw [hxx] at c1 ⊢
    obtain ⟨b, hb⟩ : ∃ b, eachN n xs (List.replicate n false) = b := ⟨_, rfl⟩
    rw [hb] at hE ⊢
    have d1 : ((n : Int) % 2 != 0) = false := by simp; omega
    have d2 : (1 : Int) ≤ (n : Int) / 2 := by omega
    have d3 : (n : Int) / 2 ≤ 6 := by omega
    have d4 : (0 : Int) < (n : Int) := by omega
    clear hO hxx hb hR hn l1 hx
    by_cases h0 : x = 0
    · subst h0
      go_enter Try.func10, Try.ntmps10
      go_wp2_with (first
        | (go_at_call 15; ((with_reducible refine (areI_t _ 6 _ d2 d3).mono ?_); rintro e w0 ⟨rfl, rfl⟩))
        | (go_at_call 16; ((with_reducible refine (hE.out _ (Below.refl _ _)).mono ?_); rintro e w1 ⟨rfl, hB1⟩)))
      go_ret
      exact ⟨by simp, hB1⟩
    · have h0' : (x == 0) = false := by simpa using h0
      rw [h0', Bool.false_and]
      go_enter Try.func10, Try.ntmps10
      go_wp2_with (first
        | (go_at_call 15; ((with_reducible refine (areI_t _ 6 _ d2 d3).mono ?_); rintro e w0 ⟨rfl, rfl⟩)))
      go_ret
      exact ⟨rfl, Below.refl _ _⟩
  · rw [decide_eq_false hl, Bool.false_and, Bool.false_and]
    clear hO hE hR hn
    by_cases l1 : n % 2 = 0
    · have d1 : ((n : Int) % 2 != 0) = false := by simp; omega
      have d2 := Lib.hid (show (n : Int) / 2 < 1 ∨ 6 < (n : Int) / 2 by omega)
      clear l1 hl
      go_enter Try.func10, Try.ntmps10
      go_wp2_with (first
        | (go_at_call 15; ((with_reducible refine (areI_f _ 6 _ d2.out).mono ?_); rintro e w0 ⟨rfl, rfl⟩)))
      go_ret
      exact ⟨rfl, Below.refl _ _⟩
    · have d1 : ((n : Int) % 2 != 0) = true := by simp; omega
      clear l1 hl
      go_enter Try.func10, Try.ntmps10
      go_wp2
      go_ret
      exact ⟨rfl, Below.refl _ _⟩
end Go.Proofs.Ytbpecjfiilkobaa
