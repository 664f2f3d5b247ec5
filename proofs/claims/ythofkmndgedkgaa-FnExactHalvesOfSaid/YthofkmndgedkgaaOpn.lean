/- How many open points a text has: the model's count. -/
import Derived.Test.YthofkmndgedkgaaBase
import Derived.Test.YthofkmndgedkgaaParse
namespace Go.Proofs.Ythofkmndgedkgaa
open Go.RowKit
set_option linter.unusedVariables false
def opnO (l : List UInt8) : Int := ((l.count 124 : Nat) : Int)
theorem countO_take (l : List UInt8) (k : Nat) (h : k < l.length) : (l.take (k + 1)).count 124 = (l.take k).count 124 + (if l[k] = 124 then 1 else 0) := by
  rw [List.take_succ_eq_append_getElem h, List.count_append]
  congr 1
  rw [List.count_singleton]
  simp
set_option maxRecDepth 100000 in
theorem opnS_any (a : ByteArray) (w : World) (ha : a.size ≤ 1048576) :
    Calls Try.prog 114 #[.string a] w fun e w' => e = .returned (.int .i64 (opnO a.data.toList)) ∧ w' = w := by
  obtain ⟨R, hR⟩ : ∃ R, opnO a.data.toList = R := ⟨_, rfl⟩
  have HR := Lib.hid hR
  rw [hR]
  clear hR
  go_enter Try.func114, Try.ntmps114
  go_wp2
  go_loopw [3, 4] (fun c i wr => ∃ (k m : Nat), k ≤ a.size ∧ i = .int .i64 k ∧ c = .int .i64 (m : Int) ∧ m ≤ k ∧ Hid ((a.data.toList.take k).count 124 = m) ∧ wr = w) (fun _ i _ => (a.size - intOf i).toNat)
  case atStart => exact ⟨0, 0, by omega, rfl, rfl, by omega, Lib.hid (by simp), rfl⟩
  case round =>
    obtain ⟨k, m, hk, rfl, rfl, hmk, hM, rfl⟩ := hrel
    by_cases hlt : k < a.size
    · have hltI : (k : Int) < (a.size : Int) := by omega
      have hst := countO_take a.data.toList k (by rw [Array.length_toList]; exact hlt)
      have e0 : a.data.toList[k]'(by rw [Array.length_toList]; exact hlt) = a[k] := rfl
      rw [e0, hM.out] at hst
      by_cases c : a[k] = 124
      · have b124 : ((a[k].toNat : Int) == 124) = true := by rw [c]; rfl
        have H2 := Lib.hid (show (a.data.toList.take (k + 1)).count 124 = m + 1 by rw [hst, if_pos c])
        clear c hst
        go_wp2
        go_roundw
        case rel => exact ⟨k + 1, m + 1, by omega, by go_num, by go_num, by omega, H2, trivial⟩
        case measure => simp [intOf] <;> omega
      · have b124 : ((a[k].toNat : Int) == 124) = false := byte_ne a[k] 124 c
        have H2 := Lib.hid (show (a.data.toList.take (k + 1)).count 124 = m by rw [hst, if_neg c]; rfl)
        clear c hst
        go_wp2
        go_roundw
        case rel => exact ⟨k + 1, m, by omega, by go_num, rfl, by omega, H2, trivial⟩
        case measure => simp [intOf] <;> omega
    · have e : (m : Int) = R := by
        have := hM.out
        rw [List.take_of_length_le (by rw [Array.length_toList]; have : a.data.size = a.size := rfl; omega)] at this
        rw [← HR.out, ← this]; rfl
      subst e
      go_wp2
      go_ret
      exact ⟨rfl, rfl⟩
end Go.Proofs.Ythofkmndgedkgaa
