/- Contract of the model's test of short permutations, and the law of IsShort. -/
import Derived.Test.YtbikpagoeeelbaaPerm
import Derived.Deep.QuietTactic
import Derived.BigQuiet
namespace Go.Proofs.Ytbikpagoeeelbaa
open Go.RowKit
set_option linter.unusedVariables false
def Dsc3 (xs : List Int) (i j k : Nat) : Prop := xs.getD j 0 < xs.getD i 0 ∧ xs.getD k 0 < xs.getD j 0
def Fi (xs : List Int) (I : Nat) : Prop := ∀ i j k, i < j → j < k → k < xs.length → i < I → ¬ Dsc3 xs i j k
def Fj (xs : List Int) (I J : Nat) : Prop := ∀ j k, I < j → j < k → k < xs.length → j < J → ¬ Dsc3 xs I j k
def Fk (xs : List Int) (I J K : Nat) : Prop := ∀ k, J < k → k < xs.length → k < K → ¬ Dsc3 xs I J k
theorem Fi.next {xs : List Int} {I : Nat} (h : Fi xs I) (h2 : Fj xs I xs.length) : Fi xs (I + 1) := by
  intro i j k a b c d
  by_cases e : i = I
  · subst e; exact h2 j k a b c (by omega)
  · exact h i j k a b c (by omega)
theorem Fj.next {xs : List Int} {I J : Nat} (h : Fj xs I J) (h2 : Fk xs I J xs.length) : Fj xs I (J + 1) := by
  intro j k a b c d
  by_cases e : j = J
  · subst e; exact h2 k b c c
  · exact h j k a b c (by omega)
theorem Fk.next {xs : List Int} {I J K : Nat} (h : Fk xs I J K) (h2 : ¬ Dsc3 xs I J K) : Fk xs I J (K + 1) := by
  intro k a b c
  by_cases e : k = K
  · subst e; exact h2
  · exact h k a b (by omega)
theorem Fi.all {xs : List Int} {I : Nat} (h : Fi xs I) (hI : xs.length ≤ I) : ShortP xs := fun i j k a b c => h i j k a b c (by omega)
set_option maxRecDepth 100000 in
set_option maxHeartbeats 4000000 in
theorem shortS_any (p : Option Addr) (cap : Nat) (xs : List Int) (hx : xs.length ≤ 8) (w : World) (hR : Rd w p xs) :
    Calls Try.prog 55 #[.slice p xs.length cap] w fun e w' => (∃ b : Bool, e = .returned (.bool b) ∧ (b = true ↔ ShortP xs)) ∧ Below w.heap.size w w' := by
  obtain ⟨m, hm⟩ : ∃ m, xs.length = m := ⟨_, rfl⟩
  have hR' := Lib.hid hR
  have hN := Lib.hid hm
  rw [hm] at hx ⊢
  clear hR hm
  go_enter Try.func55, Try.ntmps55
  go_wp2
  go_loopw [3] (fun i wr => ∃ I : Nat, I ≤ m ∧ i = .int .i64 I ∧ Hid (Fi xs I) ∧ Below w.heap.size w wr) (fun i _ => ((m : Int) - intOf i).toNat)
  case atStart => exact ⟨0, by omega, rfl, Lib.hid (fun i j k _ _ _ h => absurd h (by omega)), Below.refl _ _⟩
  case round =>
    obtain ⟨I, hI, rfl, hFi, hB⟩ := hrel
    by_cases hlt : I < m
    · have hB' := Lib.hid hB
      clear hB
      go_wp2
      go_loopw [4] (fun j wr => ∃ J : Nat, I < J ∧ J ≤ m ∧ j = .int .i64 J ∧ Hid (Fj xs I J) ∧ Below w.heap.size w wr) (fun j _ => ((m : Int) - intOf j).toNat)
      case atStart => exact ⟨I + 1, by omega, by omega, by go_num, Lib.hid (fun j k a _ _ h => absurd h (by omega)), hB'.out⟩
      case round =>
        clear hB'
        obtain ⟨J, hIJ, hJ, rfl, hFj, hB⟩ := hrel
        by_cases hltJ : J < m
        · have hB' := Lib.hid hB
          clear hB
          go_wp2
          go_loopw [5] (fun k wr => ∃ K : Nat, J < K ∧ K ≤ m ∧ k = .int .i64 K ∧ Hid (Fk xs I J K) ∧ Below w.heap.size w wr) (fun k _ => ((m : Int) - intOf k).toNat)
          case atStart => exact ⟨J + 1, by omega, by omega, by go_num, Lib.hid (fun k a _ h => absurd h (by omega)), hB'.out⟩
          case round =>
            clear hB'
            obtain ⟨K, hJK, hK, rfl, hFk, hB⟩ := hrel
            by_cases hltK : K < m
            · have hks : K < xs.length := by have := hN.out; omega
              obtain ⟨a, rfl⟩ := rd_some hR'.out hks
              have hRw := hR'.out.below hB
              have c1 := hRw.cell a rfl I (by omega)
              have c2 := hRw.cell a rfl J (by omega)
              have c3 := hRw.cell a rfl K (by omega)
              obtain ⟨x, hxx⟩ : ∃ x, xs.getD I 0 = x := ⟨_, rfl⟩
              obtain ⟨y, hyy⟩ : ∃ y, xs.getD J 0 = y := ⟨_, rfl⟩
              obtain ⟨z, hzz⟩ : ∃ z, xs.getD K 0 = z := ⟨_, rfl⟩
              rw [hxx] at c1
              rw [hyy] at c2
              rw [hzz] at c3
              have i1 : (I : Int) < (m : Int) := by omega
              have i2 : (J : Int) < (m : Int) := by omega
              have i3 : (K : Int) < (m : Int) := by omega
              have hD : Dsc3 xs I J K ↔ y < x ∧ z < y := by unfold Dsc3; rw [hxx, hyy, hzz]
              have hD' := Lib.hid hD
              clear hD hxx hyy hzz hRw
              by_cases g1 : y < x
              · by_cases g2 : z < y
                · have hno := Lib.hid (show ¬ ShortP xs from fun hs => hs I J K hIJ hJK hks (hD'.out.2 ⟨g1, g2⟩))
                  have d1 : decide (y < x) = true := by simp [g1]
                  go_wp2_with fail
                  go_quiet (fail)
                  go_wp2
                  go_ret
                  exact ⟨⟨false, rfl, by simp; exact hno.out⟩, Below.drewN hB _⟩
                · have hn := Lib.hid (Fk.next hFk.out (fun h => g2 (hD'.out.1 h).2))
                  have d1 : decide (y < x) = true := by simp [g1]
                  go_wp2_with fail
                  go_quiet (fail)
                  go_wp2
                  go_roundw
                  case rel => exact ⟨K + 1, by omega, by omega, by go_num, hn, Below.drewN hB _⟩
                  case measure => simp [intOf]; omega
              · have hn := Lib.hid (Fk.next hFk.out (fun h => g1 (hD'.out.1 h).1))
                have d1 : decide (y < x) = false := by simp; omega
                go_wp2_with fail
                go_quiet (fail)
                go_wp2
                go_roundw
                case rel => exact ⟨K + 1, by omega, by omega, by go_num, hn, Below.drewN hB _⟩
                case measure => simp [intOf]; omega
            · have hn := Lib.hid (Fj.next hFj.out (by have h := hFk.out; rw [show K = xs.length by have := hN.out; omega] at h; exact h))
              go_wp2
              go_roundw
              case rel => exact ⟨J + 1, by omega, by omega, by go_num, hn, hB⟩
              case measure => simp [intOf]; omega
        · have hn := Lib.hid (Fi.next hFi.out (by have h := hFj.out; rw [show J = xs.length by have := hN.out; omega] at h; exact h))
          go_wp2
          go_roundw
          case rel => exact ⟨I + 1, by omega, by go_num, hn, hB⟩
          case measure => simp [intOf]; omega
    · have hall := Lib.hid (hFi.out.all (by have := hN.out; omega))
      go_wp2
      go_ret
      exact ⟨⟨true, rfl, by simp; exact hall.out⟩, hB⟩
end Go.Proofs.Ytbikpagoeeelbaa
