/- FnFusion: likeInts and big. -/
import Derived.Test.YtmcffhafonemeaaSrt
import Derived.Test.YtmcffhafonemeaaFum
namespace Go.Proofs.Ytmcffhafonemeaa
open Go.RowKit Go.Lib
set_option linter.unusedVariables false
set_option linter.unusedSimpArgs false
set_option maxRecDepth 100000 in
set_option maxHeartbeats 1000000 in
theorem like_any (p q : Option Addr) (cap cap' : Nat) (xs : List Int) (hx : xs.length ≤ 4194304) (w : World) (hR : Rd w p xs) (hQ : Rd w q xs) :
    Calls Try.prog 12 #[.slice p xs.length cap, .slice q xs.length cap'] w fun e w' => e = .returned (.bool true) ∧ Below w.heap.size w w' := by
  obtain ⟨n, hn⟩ : ∃ n, xs.length = n := ⟨_, rfl⟩
  have hR' := Lib.hid hR
  have hQ' := Lib.hid hQ
  rw [hn] at hx ⊢
  have hN := Lib.hid hn
  clear hR hQ hn
  go_enter Try.func12, Try.ntmps12
  go_wp2
  go_loopw [5] (fun i wr => ∃ k : Nat, k ≤ n ∧ i = .int .i64 k ∧ Below w.heap.size w wr) (fun i _ => ((n : Int) - intOf i).toNat)
  case atStart => exact ⟨0, by omega, rfl, Below.refl _ _⟩
  case round =>
    obtain ⟨k, hk, rfl, hB⟩ := hrel
    by_cases hlt : k < n
    · cases p with
      | none => exfalso; have h1 := hR'.out.nil rfl; have h2 := hN.out; rw [h1] at h2; simp at h2; omega
      | some a =>
        cases q with
        | none => exfalso; have h1 := hQ'.out.nil rfl; have h2 := hN.out; rw [h1] at h2; simp at h2; omega
        | some b =>
          have c1 := (hR'.out.below hB).cell a rfl k (by rw [hN.out]; exact hlt)
          have c2 := (hQ'.out.below hB).cell b rfl k (by rw [hN.out]; exact hlt)
          have i1 : (k : Int) < (n : Int) := by omega
          go_wp2
          go_quiet (fail)
          go_wp2
          go_roundw
          case rel => exact ⟨k + 1, by omega, by go_num, Below.drewN hB _⟩
          case measure => simp [intOf]; omega
    · have hk2 : k = n := by omega
      subst hk2
      go_wp2
      go_ret
      exact ⟨rfl, hB⟩
theorem big_ok (pc : Option Addr) (n cp : Nat) (hn : n ≤ 4096) (w : World) : Calls Try.prog 4 #[.slice pc n cp] w fun e w' => e = .returned (.bool false) ∧ w' = w := by
  have h : ¬ (4096 : Int) < (n : Int) := by omega
  go_enter Try.func4, Try.ntmps4
  go_wp2
  go_ret
  exact ⟨by simp, rfl⟩
theorem big_no (pc : Option Addr) (n cp : Nat) (hn : ¬ n ≤ 4096) (w : World) : Calls Try.prog 4 #[.slice pc n cp] w fun e w' => e = .returned (.bool true) ∧ w' = w := by
  have h : (4096 : Int) < (n : Int) := by omega
  go_enter Try.func4, Try.ntmps4
  go_wp2
  go_ret
  exact ⟨by simp, rfl⟩
end Go.Proofs.Ytmcffhafonemeaa
