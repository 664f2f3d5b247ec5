/- Draws: the source of a code. -/
import Derived.Test.YtmcffhafonemeaaSrd
namespace Go.Proofs.Ytmcffhafonemeaa
open Go.RowKit Go.Lib
set_option linter.unusedVariables false
set_option linter.unusedSimpArgs false
set_option maxRecDepth 100000 in
set_option maxHeartbeats 4000000 in
theorem from_any (pc : Option Addr) (n cp : Nat) (hn : n ≤ 4096) (w : World) (hR : RdB w pc n) :
    Calls Try.prog 24 #[.slice pc n cp] w fun e w' => (∃ g, e = .returned (.pointer (some ⟨g, 0, none⟩)) ∧ Src w.heap.size w' g pc n cp) ∧ Below w.heap.size w w' := by
  have hRw := Lib.hid (fun w' (hb : Below w.heap.size w w') => hR.below hb)
  obtain ⟨H0, hH0⟩ : ∃ H, IntKind.u64.wrap (12511 + (n : Int)) = H := ⟨_, rfl⟩
  have wn : IntKind.u64.wrap (n : Int) = (n : Int) := IntWalk.u64_in _ ⟨by omega, by omega⟩
  clear hR
  go_enter Try.func24, Try.ntmps24
  go_upto_region 2 with fail
  have O1 : Own (w.alloc (.cells #[.slice pc n cp, .int .i64 0, .int .u64 H0] 59)) w.heap.size #[.slice pc n cp, .int .i64 0, .int .u64 H0] 59 := Own.new _ _ _
  have b1 : Below w.heap.size w (w.alloc (.cells #[.slice pc n cp, .int .i64 0, .int .u64 H0] 59)) := (Below.refl _ w).alloc (Nat.le_refl _) _
  clear hH0 wn
  generalize w.alloc (.cells #[.slice pc n cp, .int .i64 0, .int .u64 H0] 59) = w1 at *
  go_wp2
  go_loopw [4] (fun i wr => ∃ (k : Nat) (h : Int), k ≤ n ∧ i = .int .i64 k ∧ Own wr w.heap.size #[.slice pc n cp, .int .i64 0, .int .u64 h] 59 ∧ Below w.heap.size w wr) (fun i _ => ((n : Int) - intOf i).toNat)
  case atStart => exact ⟨0, H0, by omega, rfl, O1, b1⟩
  case round =>
    clear O1 b1
    obtain ⟨k, h, hk, rfl, hO, hB⟩ := hrel
    by_cases hkn : k < n
    · have hki : (k : Int) < (n : Int) := by omega
      have hk4 : (k : Int) < 4096 := by omega
      obtain ⟨a, rfl⟩ : ∃ a, pc = some a := by
        cases pc with
        | none => exact absurd ((hRw.out wr hB).nil rfl) (by omega)
        | some a => exact ⟨a, rfl⟩
      obtain ⟨b, hb0, hb1, c2⟩ := (hRw.out wr hB).cell a rfl k hkn
      have c1 : wr.cell? ⟨w.heap.size, 2, none⟩ = some (.int .u64 h) := hO.cell 2
      have f1 := hO.free 2
      obtain ⟨A1, hA1⟩ : ∃ H, IntKind.u64.wrap (h * 1099511628211) = H := ⟨_, rfl⟩
      have wb : IntKind.u64.wrap b = b := IntWalk.u64_in _ ⟨by omega, by omega⟩
      obtain ⟨A2, hA2⟩ : ∃ H, IntKind.u64.wrap (A1 + b) = H := ⟨_, rfl⟩
      obtain ⟨A3, hA3⟩ : ∃ H, IntKind.u64.wrap (A2 + 67) = H := ⟨_, rfl⟩
      have hO2 := Lib.hid (show Own (wr.setCell ⟨w.heap.size, 2, none⟩ (.int .u64 A3)) w.heap.size #[.slice (some a) n cp, .int .i64 0, .int .u64 A3] 59 from hO.set 2 _)
      have hB2 := Lib.hid (hB.setCell (p := ⟨w.heap.size, 2, none⟩) (Nat.le_refl _) (.int .u64 A3))
      clear hO hB hRw
      go_wp2
      have n1 : ((k : Int)).toNat = k := by omega
      go_region
      clear n1 wb hA1 hA2 hA3 c1 c2 f1
      have wk : IntKind.i64.wrap ((k : Int) + 1) = (k : Int) + 1 := IntWalk.i64_in _ (by omega)
      have wk2 : wrap64 ((k : Int) + 1) = (k : Int) + 1 := IntWalk.wrap64_in _ (by omega)
      go_wp2
      go_roundw
      case rel => exact ⟨k + 1, A3, by omega, by go_num, hO2.out.drewN 1, Below.drewN hB2.out 1⟩
      case measure => simp [intOf]; omega
    · have hki : ¬ (k : Int) < (n : Int) := by omega
      have hS' := Lib.hid (show Src w.heap.size wr w.heap.size pc n cp from ⟨Nat.le_refl _, 0, h, Nat.zero_le _, hO⟩)
      go_wp2
      go_ret
      exact ⟨⟨_, rfl, hS'.out⟩, hB⟩
end Go.Proofs.Ytmcffhafonemeaa
