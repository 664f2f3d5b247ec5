/- The law of KindsOf. -/
import Derived.Test.YtblbnlpbefmieaaPkk
import Derived.Test.YtblbnlpbefmieaaLawPw
namespace Go.Proofs.Ytblbnlpbefmieaa
open Go.RowKit
set_option linter.unusedVariables false
/-- The marks that the laws set in seven truths, the first k of them. -/
def mkB (bs : List Bool) (k : Nat) : List Bool := [false, false, true, false, false, true, false].take k ++ bs.drop k
set_option maxRecDepth 100000 in
set_option maxHeartbeats 4000000 in
theorem markB_any (g : Nat) (x0 x1 x2 x3 x4 x5 x6 : Bool) (w : World) (hO : Own w g (bcl [x0, x1, x2, x3, x4, x5, x6]) 4) :
    Calls Try.prog 17 #[.slice (some ⟨g, 0, none⟩) 7 7, .int .i64 1] w fun e w' => e = .returned (.int .i64 8) ∧ Own w' g (bcl (mkB [] 7)) 4 ∧ Only g w w' := by
  have HO := Lib.hid (show Own w g (bcl (mkB [x0, x1, x2, x3, x4, x5, x6] 0)) 4 from hO)
  clear hO
  go_enter Try.func17, Try.ntmps17
  go_wp2
  go_loopw [1, 5] (fun m i wr => ∃ k : Nat, k ≤ 7 ∧ i = .int .i64 k ∧ m = .int .i64 ((k : Int) + 1) ∧ Own wr g (bcl (mkB [x0, x1, x2, x3, x4, x5, x6] k)) 4 ∧ Only g w wr) (fun _ i _ => ((7 : Int) - intOf i).toNat)
  case atStart => exact ⟨0, by omega, rfl, rfl, HO.out, Only.refl _ _⟩
  case round =>
    clear HO
    obtain ⟨k, hk, rfl, rfl, hO, hN⟩ := hrel
    have hk7 : k = 0 ∨ k = 1 ∨ k = 2 ∨ k = 3 ∨ k = 4 ∨ k = 5 ∨ k = 6 ∨ k = 7 := by omega
    rcases hk7 with rfl | rfl | rfl | rfl | rfl | rfl | rfl | rfl
    · have hs := hO.set 0 (.bool false)
      have q1 := hO.cell 0
      have q2 := hO.free 0
      have HS := Lib.hid hs
      have HN := Lib.hid (hN.trans (Only.set g 0 wr (.bool false)))
      clear hs hO hN
      go_wp2
      go_roundw
      case rel => exact ⟨1, by omega, rfl, rfl, HS.out, HN.out⟩
      case measure => simp [intOf]
    · have hs := hO.set 1 (.bool false)
      have q1 := hO.cell 1
      have q2 := hO.free 1
      have HS := Lib.hid hs
      have HN := Lib.hid (hN.trans (Only.set g 1 wr (.bool false)))
      clear hs hO hN
      go_wp2
      go_roundw
      case rel => exact ⟨2, by omega, rfl, rfl, HS.out, HN.out⟩
      case measure => simp [intOf]
    · have hs := hO.set 2 (.bool true)
      have q1 := hO.cell 2
      have q2 := hO.free 2
      have HS := Lib.hid hs
      have HN := Lib.hid (hN.trans (Only.set g 2 wr (.bool true)))
      clear hs hO hN
      go_wp2
      go_roundw
      case rel => exact ⟨3, by omega, rfl, rfl, HS.out, HN.out⟩
      case measure => simp [intOf]
    · have hs := hO.set 3 (.bool false)
      have q1 := hO.cell 3
      have q2 := hO.free 3
      have HS := Lib.hid hs
      have HN := Lib.hid (hN.trans (Only.set g 3 wr (.bool false)))
      clear hs hO hN
      go_wp2
      go_roundw
      case rel => exact ⟨4, by omega, rfl, rfl, HS.out, HN.out⟩
      case measure => simp [intOf]
    · have hs := hO.set 4 (.bool false)
      have q1 := hO.cell 4
      have q2 := hO.free 4
      have HS := Lib.hid hs
      have HN := Lib.hid (hN.trans (Only.set g 4 wr (.bool false)))
      clear hs hO hN
      go_wp2
      go_roundw
      case rel => exact ⟨5, by omega, rfl, rfl, HS.out, HN.out⟩
      case measure => simp [intOf]
    · have hs := hO.set 5 (.bool true)
      have q1 := hO.cell 5
      have q2 := hO.free 5
      have HS := Lib.hid hs
      have HN := Lib.hid (hN.trans (Only.set g 5 wr (.bool true)))
      clear hs hO hN
      go_wp2
      go_roundw
      case rel => exact ⟨6, by omega, rfl, rfl, HS.out, HN.out⟩
      case measure => simp [intOf]
    · have hs := hO.set 6 (.bool false)
      have q1 := hO.cell 6
      have q2 := hO.free 6
      have HS := Lib.hid hs
      have HN := Lib.hid (hN.trans (Only.set g 6 wr (.bool false)))
      clear hs hO hN
      go_wp2
      go_roundw
      case rel => exact ⟨7, by omega, rfl, rfl, HS.out, HN.out⟩
      case measure => simp [intOf]
    · go_wp2
      go_ret
      exact ⟨rfl, hO, hN⟩
set_option maxRecDepth 100000 in
set_option maxHeartbeats 4000000 in
theorem heldB_any (g : Nat) (w : World) (hO : Own w g (bcl (mkB [] 7)) 4) :
    Calls Try.prog 18 #[.slice (some ⟨g, 0, none⟩) 7 7, .int .i64 1] w fun e w' => e = .returned (.int .i64 8) ∧ Below w.heap.size w w' := by
  have HO := Lib.hid hO
  clear hO
  go_enter Try.func18, Try.ntmps18
  go_wp2
  go_loopw [1, 5] (fun m i wr => ∃ k : Nat, k ≤ 7 ∧ i = .int .i64 k ∧ m = .int .i64 ((k : Int) + 1) ∧ Own wr g (bcl (mkB [] 7)) 4 ∧ Below w.heap.size w wr) (fun _ i _ => ((7 : Int) - intOf i).toNat)
  case atStart => exact ⟨0, by omega, rfl, rfl, HO.out, Below.refl _ _⟩
  case round =>
    clear HO
    obtain ⟨k, hk, rfl, rfl, hO, hB⟩ := hrel
    have hk7 : k = 0 ∨ k = 1 ∨ k = 2 ∨ k = 3 ∨ k = 4 ∨ k = 5 ∨ k = 6 ∨ k = 7 := by omega
    rcases hk7 with rfl | rfl | rfl | rfl | rfl | rfl | rfl | rfl
    · have q1 := hO.cell 0
      rw [show (bcl (mkB [] 7))[0]? = some (.bool false) from rfl] at q1
      go_wp2
      try (go_quiet (fail); go_wp2)
      go_roundw
      case rel => exact ⟨1, by omega, rfl, rfl, by first | exact hO | exact hO.drewN _, by first | exact hB | exact Below.drewN hB _⟩
      case measure => simp [intOf]
    · have q1 := hO.cell 1
      rw [show (bcl (mkB [] 7))[1]? = some (.bool false) from rfl] at q1
      go_wp2
      try (go_quiet (fail); go_wp2)
      go_roundw
      case rel => exact ⟨2, by omega, rfl, rfl, by first | exact hO | exact hO.drewN _, by first | exact hB | exact Below.drewN hB _⟩
      case measure => simp [intOf]
    · have q1 := hO.cell 2
      rw [show (bcl (mkB [] 7))[2]? = some (.bool true) from rfl] at q1
      go_wp2
      try (go_quiet (fail); go_wp2)
      go_roundw
      case rel => exact ⟨3, by omega, rfl, rfl, by first | exact hO | exact hO.drewN _, by first | exact hB | exact Below.drewN hB _⟩
      case measure => simp [intOf]
    · have q1 := hO.cell 3
      rw [show (bcl (mkB [] 7))[3]? = some (.bool false) from rfl] at q1
      go_wp2
      try (go_quiet (fail); go_wp2)
      go_roundw
      case rel => exact ⟨4, by omega, rfl, rfl, by first | exact hO | exact hO.drewN _, by first | exact hB | exact Below.drewN hB _⟩
      case measure => simp [intOf]
    · have q1 := hO.cell 4
      rw [show (bcl (mkB [] 7))[4]? = some (.bool false) from rfl] at q1
      go_wp2
      try (go_quiet (fail); go_wp2)
      go_roundw
      case rel => exact ⟨5, by omega, rfl, rfl, by first | exact hO | exact hO.drewN _, by first | exact hB | exact Below.drewN hB _⟩
      case measure => simp [intOf]
    · have q1 := hO.cell 5
      rw [show (bcl (mkB [] 7))[5]? = some (.bool true) from rfl] at q1
      go_wp2
      try (go_quiet (fail); go_wp2)
      go_roundw
      case rel => exact ⟨6, by omega, rfl, rfl, by first | exact hO | exact hO.drewN _, by first | exact hB | exact Below.drewN hB _⟩
      case measure => simp [intOf]
    · have q1 := hO.cell 6
      rw [show (bcl (mkB [] 7))[6]? = some (.bool false) from rfl] at q1
      go_wp2
      try (go_quiet (fail); go_wp2)
      go_roundw
      case rel => exact ⟨7, by omega, rfl, rfl, by first | exact hO | exact hO.drewN _, by first | exact hB | exact Below.drewN hB _⟩
      case measure => simp [intOf]
    · go_wp2
      go_ret
      exact ⟨rfl, hB⟩
set_option maxRecDepth 100000 in
set_option maxHeartbeats 4000000 in
theorem eqB_any (g g2 : Nat) (bs : List Bool) (h7 : bs.length = 7) (w : World) (hO : Own w g (bcl bs) 4) (hO2 : Own w g2 (bcl bs) 4) :
    Calls Try.prog 16 #[.slice (some ⟨g, 0, none⟩) 7 7, .slice (some ⟨g2, 0, none⟩) 7 7] w fun e w' => e = .returned (.bool true) ∧ Below w.heap.size w w' := by
  have H7 := Lib.hid h7
  have HO := Lib.hid hO
  have HP := Lib.hid hO2
  clear hO hO2 h7
  go_enter Try.func16, Try.ntmps16
  go_wp2
  go_loopw [5] (fun i wr => ∃ k : Nat, k ≤ 7 ∧ i = .int .i64 k ∧ Own wr g (bcl bs) 4 ∧ Own wr g2 (bcl bs) 4 ∧ Below w.heap.size w wr) (fun i _ => ((7 : Int) - intOf i).toNat)
  case atStart => exact ⟨0, by omega, rfl, HO.out, HP.out, Below.refl _ _⟩
  case round =>
    clear HO HP
    obtain ⟨k, hk, rfl, hO, hP, hB⟩ := hrel
    by_cases hlt : k < 7
    · have i1 : (k : Int) < 7 := by omega
      have c1 := hO.cell k
      rw [bcl_get _ _ (by rw [H7.out]; exact hlt)] at c1
      have c2 := hP.cell k
      rw [bcl_get _ _ (by rw [H7.out]; exact hlt)] at c2
      generalize bs.getD k false = x at *
      have hxx : (x != x) = false := by cases x <;> rfl
      go_wp2
      go_quiet (fail)
      go_wp2
      go_roundw
      case rel => exact ⟨k + 1, by omega, by go_num, hO.drewN _, hP.drewN _, Below.drewN hB _⟩
      case measure => simp [intOf]; omega
    · obtain rfl : k = 7 := by omega
      go_wp2
      go_ret
      exact ⟨rfl, hB⟩
end Go.Proofs.Ytblbnlpbefmieaa
