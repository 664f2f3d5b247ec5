/- ComponentTable: the program's, the model's, the law. -/
import Derived.Test.YthofkmndgedkgaaTab
import Derived.Test.YthofkmndgedkgaaCbs
namespace Go.Proofs.Ythofkmndgedkgaa
open Go.RowKit
set_option linter.unusedVariables false
set_option linter.unusedSimpArgs false
/-- A table whose rows lie in the block g1. -/
structure PT (w : World) (B g1 g2 n : Nat) (cs : Array Value) (ns : List Int) : Prop where
  b1 : B ≤ g1
  b2 : B ≤ g2
  o1 : Own w g1 (icells ns) 2
  o2 : Own w g2 cs 35
  rof : Rof cs g1 n n
  len : ns.length = n * n
theorem PT.below {w w' : World} {B g1 g2 n : Nat} {cs : Array Value} {ns : List Int} (h : PT w B g1 g2 n cs ns) (hb : Below w.heap.size w w') : PT w' B g1 g2 n cs ns :=
  ⟨h.b1, h.b2, h.o1.below hb h.o1.lt, h.o2.below hb h.o2.lt, h.rof, h.len⟩
theorem PT.trd {w : World} {B g1 g2 n : Nat} {cs : Array Value} {ns : List Int} (h : PT w B g1 g2 n cs ns) (R : Nat → List Int) (hl : ∀ i, (R i).length = n) (hR : ∀ i j, i < n → j < n → ns.getD (i * n + j) 0 = (R i).getD j 0) : TRd w g2 n R := fun i hi => by
  refine ⟨⟨g1, i * n, none⟩, n, by rw [h.o2.cell]; exact h.rof.2 i hi, fun a e j hj => ?_, fun e => by cases e⟩
  cases e
  rw [hl] at hj
  have hin : i * n + j < ns.length := by
    rw [h.len]
    have := Nat.mul_le_mul_right n (show i + 1 ≤ n by omega)
    rw [Nat.succ_mul] at this; omega
  rw [show (⟨g1, i * n, none⟩ : Addr).add j = ⟨g1, i * n + j, none⟩ by rw [Addr.add_mid], h.o1.cell, icells_get _ _ hin, hR i j hi hj]
/-- The marks of the row i. -/
def mkR (n : Nat) (i : Nat) : List Int := marksI (1 + ((i * n : Nat) : Int)) n
set_option maxRecDepth 100000 in
set_option maxHeartbeats 1000000 in
theorem markTT (B g1 g2 n : Nat) (cs : Array Value) (ns : List Int) (hn : n ≤ 200) (P : Nat) (hP : n * n = P) (hP2 : P ≤ 100000) (w : World) (h : PT w B g1 g2 n cs ns) :
    Calls Try.prog 22 #[.slice (some ⟨g2, 0, none⟩) n n, .int .i64 1] w fun e w' => e = .returned (.int .i64 (1 + (P : Int))) ∧ (∃ ns', PT w' B g1 g2 n cs ns' ∧ ∀ i j, i < n → j < n → ns'.getD (i * n + j) 0 = (mkR n i).getD j 0) ∧ Below B w w' := by
  have HH := Lib.hid h
  have HP := Lib.hid hP
  have hne : g2 ≠ g1 := Own.neT h.o2 h.o1 (by decide)
  have o1 := h.o1
  have o2 := h.o2
  have hlen := Lib.hid (h.len.trans hP)
  have hb1 := h.b1
  clear h hP
  go_enter Try.func22, Try.ntmps22
  go_wp2
  go_loopw [1, 5] (fun q i wr => ∃ (k T : Nat) (ns' : List Int), k ≤ n ∧ i = .int .i64 k ∧ q = .int .i64 (1 + (T : Int)) ∧ Hid (k * n = T) ∧ T ≤ P ∧ Hid (ns'.length = P) ∧ Hid (∀ t, t < T → ns'.getD t 0 = 1 + (t : Int)) ∧ Own wr g1 (icells ns') 2 ∧ Own wr g2 cs 35 ∧ Below B w wr) (fun _ i _ => ((n : Int) - intOf i).toNat)
  case atStart => exact ⟨0, 0, ns, by omega, rfl, rfl, Lib.hid (by simp), by omega, hlen, Lib.hid (fun t ht => by omega), o1, o2, Below.refl _ _⟩
  case round =>
    clear o1 o2 hlen
    obtain ⟨k, T, ns', hk, rfl, rfl, hT, hTP, hl, hM, o1, o2, hB⟩ := hrel
    by_cases hlt : k < n
    · have hT2 := Lib.hid (show (k + 1) * n = T + n by rw [Nat.succ_mul, hT.out])
      have hTn : T + n ≤ P := by rw [← hT2.out, ← HP.out]; exact Nat.mul_le_mul_right n (by omega)
      have c1 : wr.cell? ⟨g2, k, none⟩ = some (.slice (some ⟨g1, T, none⟩) n n) := by rw [o2.cell, ← hT.out]; exact HH.out.rof.2 k hlt
      have i1 : (k : Int) < (n : Int) := by omega
      have hC := Lib.hid (markO g1 T n n ns' (by rw [hl.out]; exact hTn) (by omega) (1 + (T : Int)) (by omega) (by omega) wr o1)
      have O2 := Lib.hid o2
      have HB := Lib.hid hB
      clear o1 o2 hB
      go_wp2_with (first
        | (go_at_call 27; ((with_reducible refine (hC.out).mono ?_); rintro e w2 ⟨rfl, ns2, hM2, hO2, hN2⟩)))
      go_roundw
      case rel =>
        refine ⟨k + 1, T + n, ns2, by omega, by go_num, by go_num, hT2, hTn, Lib.hid (hM2.1.trans hl.out), Lib.hid (fun t ht => ?_), hO2, O2.out.only hN2 hne, HB.out.trans (hN2.below.mono hb1)⟩
        rw [hM2.2 t]
        by_cases e : T ≤ t
        · rw [if_pos ⟨e, ht⟩]; omega
        · rw [if_neg (by omega)]; exact hM.out t (by omega)
      case measure => simp [intOf]; omega
    · have e : k = n := by omega
      subst e
      have e2 : T = P := by rw [← hT.out]; exact HP.out
      subst e2
      go_wp2
      go_ret
      refine ⟨rfl, ⟨ns', ⟨hb1, HH.out.b2, o1, o2, HH.out.rof, by rw [hl.out, HP.out]⟩, fun i j hi hj => ?_⟩, hB⟩
      have hin : i * k + j < T := by
        rw [← HP.out]
        have := Nat.mul_le_mul_right k (show i + 1 ≤ k by omega)
        rw [Nat.succ_mul] at this; omega
      rw [hM.out _ hin, mkR, marksI_get _ _ _ hj]
      push_cast; omega
set_option maxRecDepth 100000 in
set_option maxHeartbeats 1000000 in
theorem heldTT (g2 n ct : Nat) (hn : n ≤ 200) (P : Nat) (hP : n * n = P) (hP2 : P ≤ 100000) (w : World) (h : TRd w g2 n (mkR n)) :
    Calls Try.prog 23 #[.slice (some ⟨g2, 0, none⟩) n ct, .int .i64 1] w fun e w' => e = .returned (.int .i64 (1 + (P : Int))) ∧ w' = w := by
  have HH := Lib.hid h
  have HP := Lib.hid hP
  clear h hP
  go_enter Try.func23, Try.ntmps23
  go_wp2
  go_loopw [1, 5] (fun q i wr => ∃ (k T : Nat), k ≤ n ∧ i = .int .i64 k ∧ q = .int .i64 (1 + (T : Int)) ∧ Hid (k * n = T) ∧ T ≤ P ∧ wr = w) (fun _ i _ => ((n : Int) - intOf i).toNat)
  case atStart => exact ⟨0, 0, by omega, rfl, rfl, Lib.hid (by simp), by omega, rfl⟩
  case round =>
    obtain ⟨k, T, hk, rfl, rfl, hT, hTP, rfl⟩ := hrel
    by_cases hlt : k < n
    · have hT2 := Lib.hid (show (k + 1) * n = T + n by rw [Nat.succ_mul, hT.out])
      have hTn : T + n ≤ P := by rw [← hT2.out, ← HP.out]; exact Nat.mul_le_mul_right n (by omega)
      obtain ⟨a, c, c1, c2⟩ := HH.out k hlt
      have i1 : (k : Int) < (n : Int) := by omega
      rw [mkR, hT.out] at c2
      have hC := Lib.hid (held_any (some a) c n (by omega) (1 + (T : Int)) (by omega) (by omega) _ c2)
      clear c2
      go_wp2_with (first
        | (go_at_call 28; ((with_reducible refine (hC.out).mono ?_); rintro e w2 ⟨rfl, rfl⟩)))
      go_roundw
      case rel => exact ⟨k + 1, T + n, by omega, by go_num, by go_num, hT2, hTn, trivial⟩
      case measure => simp [intOf]; omega
    · have e : k = n := by omega
      subst e
      have e2 : T = P := by rw [← hT.out]; exact HP.out
      subst e2
      go_wp2
      go_ret
      exact ⟨rfl, rfl⟩
end Go.Proofs.Ythofkmndgedkgaa
