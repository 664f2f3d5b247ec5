/- Contracts of both tests of permutations. -/
import Derived.Test.YtbikpagoeeelbaaShort
import Derived.Test.YtbikpagoeeelbaaSpecB
import Derived.Test.YtbikpagoeeelbaaHas
namespace Go.Proofs.Ytbikpagoeeelbaa
open Go.RowKit
set_option linter.unusedVariables false
/-- Whether the numbers are below n, not marked, and all different. -/
def prm (n : Int) : List Int → List Bool → Bool
  | [], _ => true
  | x :: r, mb => if 0 ≤ x ∧ x < n ∧ mb.getD x.toNat true = false then prm n r (mb.set x.toNat true) else false
def permB (xs : List Int) : Bool := decide (1 ≤ xs.length ∧ xs.length ≤ 8) && prm xs.length xs f8
theorem built8 : Try.prog.built 78 [] = some (bcells f8) := by kernel_rfl
theorem row8 : (Try.prog.info? 78).map (·.size) = some (bcells f8).size := by kernel_rfl
theorem prm_each (n : Int) (xs : List Int) : ∀ mb : List Bool, prm n xs mb = eachN n xs mb := by
  induction xs with
  | nil => intro mb; rfl
  | cons x r ih => intro mb; unfold prm eachN; rw [ih]
theorem prm_has (n : Nat) (h8 : n ≤ 8) (xs : List Int) : prm n xs f8 = eachN n xs (List.replicate n false) := by
  rw [prm_each]
  refine eachN_take n xs _ _ (by simpa [f8] using h8) (by simp) fun j hj => ?_
  rw [rep_getB n j hj]; exact rep_getB 8 j (by omega)
set_option maxRecDepth 100000 in
set_option maxHeartbeats 1000000 in
theorem permI_any (p : Option Addr) (cap : Nat) (xs : List Int) (hx : xs.length ≤ 1048576) (w : World) (hR : Rd w p xs) :
    Calls Try.prog 58 #[.slice p xs.length cap] w fun e w' => e = .returned (.bool (permB xs)) ∧ Below w.heap.size w w' := by
  have hc := eachI_any p cap xs xs.length rfl hx w hR
  by_cases h8 : 1 ≤ xs.length ∧ xs.length ≤ 8
  · have e : permB xs = eachN xs.length xs (List.replicate xs.length false) := by unfold permB; rw [show decide (1 ≤ xs.length ∧ xs.length ≤ 8) = true by simp [h8], Bool.true_and, prm_has _ h8.2]
    rw [e]
    obtain ⟨b, hb⟩ : ∃ b, eachN xs.length xs (List.replicate xs.length false) = b := ⟨_, rfl⟩
    rw [hb] at hc ⊢
    obtain ⟨m, hm⟩ : ∃ m, xs.length = m := ⟨_, rfl⟩
    rw [hm] at h8 hx hc ⊢
    have hc := Lib.hid hc
    obtain ⟨m1, m8⟩ := h8
    have m1' : (1 : Int) ≤ m := by omega
    have m8' : (m : Int) ≤ 8 := by omega
    clear e hb hR hm
    go_enter Try.func58, Try.ntmps58
    go_wp2_with (first
      | (go_at_call 70; ((with_reducible refine (isSize_t _ _ m1' m8').mono ?_); rintro e w0 ⟨rfl, rfl⟩))
      | (go_at_call 65; ((with_reducible refine (hc.out).mono ?_); rintro e w1 ⟨rfl, hB1⟩)))
    go_ret
    exact ⟨rfl, hB1⟩
  · have e : permB xs = false := by unfold permB; rw [show decide (1 ≤ xs.length ∧ xs.length ≤ 8) = false by simp; omega, Bool.false_and]
    rw [e]
    obtain ⟨m, hm⟩ : ∃ m, xs.length = m := ⟨_, rfl⟩
    rw [hm] at h8 hx ⊢
    have h8' := Lib.hid (show (m : Int) < 1 ∨ 8 < (m : Int) by omega)
    clear e h8 hm hR hc
    go_enter Try.func58, Try.ntmps58
    go_wp2_with (first
      | (go_at_call 70; ((with_reducible refine (isSize_f _ _ h8'.out).mono ?_); rintro e w0 ⟨rfl, rfl⟩)))
    go_ret
    exact ⟨rfl, Below.refl _ _⟩
set_option maxRecDepth 100000 in
set_option maxHeartbeats 1000000 in
theorem permS_any (p : Option Addr) (cap : Nat) (xs : List Int) (hx : xs.length ≤ 1048576) (w : World) (hR : Rd w p xs) :
    Calls Try.prog 54 #[.slice p xs.length cap] w fun e w' => e = .returned (.bool (permB xs)) ∧ Below w.heap.size w w' := by
  by_cases h8 : 1 ≤ xs.length ∧ xs.length ≤ 8
  · have e : permB xs = prm xs.length xs f8 := by unfold permB; rw [show decide (1 ≤ xs.length ∧ xs.length ≤ 8) = true by simp [h8], Bool.true_and]
    obtain ⟨m, hm⟩ : ∃ m, xs.length = m := ⟨_, rfl⟩
    rw [hm] at e h8 hx ⊢
    obtain ⟨b, hb⟩ : ∃ b, prm m xs f8 = b := ⟨_, rfl⟩
    rw [e, hb]
    have hb' := Lib.hid hb
    have hR' := Lib.hid hR
    have hN := Lib.hid hm
    obtain ⟨m1, m8⟩ := h8
    have m1' : ¬ (m : Int) < 1 := by omega
    have m8' : ¬ (8 : Int) < (m : Int) := by omega
    clear e hb hR hm
    go_enter Try.func54, Try.ntmps54
    go_wp2_with (first
      | (refine wpList_build_of rfl 78 #[] rfl (bcells f8) ?_ ?_; (exact built8))
      | (refine wpList_store_own rfl 78 _ _ rfl _ (bcells f8) rfl rfl 78 _ (Own.new w _ _) row8 rfl (by simp [bcells, Value.oneCell']) ?_; intro wa hMa hN1))
    have hBa : Below w.heap.size w wa := ((Below.refl _ _).alloc (Nat.le_refl _) _).trans hN1.below
    clear hN1
    go_loopw [4] (fun i wr => ∃ (k : Nat) (mb : List Bool), k ≤ m ∧ i = .int .i64 k ∧ Hid (mb.length = 8) ∧ Hid (prm m (xs.drop k) mb = b) ∧ Own wr w.heap.size (bcells mb) 78 ∧ Below w.heap.size w wr) (fun i _ => ((m : Int) - intOf i).toNat)
    case atStart => exact ⟨0, f8, by omega, rfl, Lib.hid rfl, by simpa using hb', hMa, hBa⟩
    case round =>
      clear hMa hBa
      obtain ⟨k, mb, hk, rfl, hml, hD, hO, hB⟩ := hrel
      by_cases hlt : k < m
      · have hks : k < xs.length := by have := hN.out; omega
        obtain ⟨a, rfl⟩ := rd_some hR'.out hks
        have c1 := (hR'.out.below hB).cell a rfl k hks
        have hst := drop_step xs k hks
        obtain ⟨x, hxx⟩ : ∃ x, xs.getD k 0 = x := ⟨_, rfl⟩
        rw [hxx] at c1 hst
        have hD2 := Lib.hid (show (if 0 ≤ x ∧ x < m ∧ mb.getD x.toNat true = false then prm m (xs.drop (k + 1)) (mb.set x.toNat true) else false) = b by rw [← hD.out, hst]; rfl)
        have i1 : (k : Int) < (m : Int) := by omega
        clear hst hxx hD
        by_cases g : 0 ≤ x ∧ x < m
        · obtain ⟨g1, g2⟩ := g
          have x8 : x < 8 := by omega
          have g3 : x ≤ (m : Int) - 1 := by omega
          have k1 := hO.cell x.toNat
          rw [bcells_get _ _ (by rw [hml.out]; omega)] at k1
          obtain ⟨t, ht⟩ : ∃ t, mb.getD x.toNat true = t := ⟨_, rfl⟩
          rw [ht] at k1
          cases t with
          | true =>
            have hbf : b = false := by rw [← hD2.out, if_neg (by rw [ht]; simp)]
            subst hbf
            clear ht
            go_wp2_with (first
              | (go_at_call 44; ((with_reducible refine (inS_t x 0 ((m : Int) - 1) _ g1 g3).mono ?_); rintro e w1 ⟨rfl, rfl⟩)))
            go_ret
            exact ⟨rfl, hB⟩
          | false =>
            have hD3 := Lib.hid (show prm m (xs.drop (k + 1)) (mb.set x.toNat true) = b by rw [← hD2.out, if_pos ⟨g1, g2, ht⟩])
            have f1 := hO.free x.toNat
            have hO2 := hO.set x.toNat (.bool true)
            rw [bcells_set] at hO2
            have K1 := Lib.hid hO2
            have hB2 := hB.setCell (p := ⟨w.heap.size, x.toNat, none⟩) (by simp) (.bool true)
            have K2 := Lib.hid (show (mb.set x.toNat true).length = 8 by rw [List.length_set]; exact hml.out)
            clear hO2 ht hO
            go_wp2_with (first
              | (go_at_call 44; ((with_reducible refine (inS_t x 0 ((m : Int) - 1) _ g1 g3).mono ?_); rintro e w1 ⟨rfl, rfl⟩)))
            go_roundw
            case rel => exact ⟨k + 1, _, by omega, by go_num, K2, hD3, K1.out, hB2⟩
            case measure => simp [intOf]; omega
        · have hbf : b = false := by rw [← hD2.out, if_neg (fun h => g ⟨h.1, h.2.1⟩)]
          subst hbf
          have g' := Lib.hid (show x < 0 ∨ (m : Int) - 1 < x by omega)
          clear g
          go_wp2_with (first
            | (go_at_call 44; ((with_reducible refine (inS_f x 0 ((m : Int) - 1) _ g'.out).mono ?_); rintro e w1 ⟨rfl, rfl⟩)))
          go_ret
          exact ⟨rfl, hB⟩
      · have hk2 : k = m := by omega
        subst hk2
        have hbt : b = true := by rw [← hD.out, List.drop_eq_nil_of_le (by have := hN.out; omega)]; rfl
        subst hbt
        go_wp2
        go_ret
        exact ⟨rfl, hB⟩
  · have e : permB xs = false := by unfold permB; rw [show decide (1 ≤ xs.length ∧ xs.length ≤ 8) = false by simp; omega, Bool.false_and]
    rw [e]
    obtain ⟨m, hm⟩ : ∃ m, xs.length = m := ⟨_, rfl⟩
    rw [hm] at h8 hx ⊢
    clear e hm hR
    by_cases g1 : m < 1
    · have g1' : (m : Int) < 1 := by omega
      go_enter Try.func54, Try.ntmps54
      go_wp2_with (first
        | (refine wpList_build_of rfl 78 #[] rfl (bcells f8) ?_ ?_; (exact built8))
        | (refine wpList_store_own rfl 78 _ _ rfl _ (bcells f8) rfl rfl 78 _ (Own.new w _ _) row8 rfl (by simp [bcells, Value.oneCell']) ?_; intro wa hMa hN1))
      go_ret
      exact ⟨rfl, ((Below.refl _ _).alloc (Nat.le_refl _) _).trans hN1.below⟩
    · have g1' : ¬ (m : Int) < 1 := by omega
      have g2' : (8 : Int) < (m : Int) := by omega
      go_enter Try.func54, Try.ntmps54
      go_wp2_with (first
        | (refine wpList_build_of rfl 78 #[] rfl (bcells f8) ?_ ?_; (exact built8))
        | (refine wpList_store_own rfl 78 _ _ rfl _ (bcells f8) rfl rfl 78 _ (Own.new w _ _) row8 rfl (by simp [bcells, Value.oneCell']) ?_; intro wa hMa hN1))
      go_ret
      exact ⟨rfl, ((Below.refl _ _).alloc (Nat.le_refl _) _).trans hN1.below⟩
end Go.Proofs.Ytbikpagoeeelbaa
