/- The laws' comparisons, marks and holds of tables. -/
import Derived.Test.YthofkmndgedkgaaCbi
import Derived.Lib.QuietBelow
import Derived.BigQuiet
namespace Go.Proofs.Ythofkmndgedkgaa
open Go.RowKit Go.BigFrame
set_option linter.unusedVariables false
set_option linter.unusedSimpArgs false
/-- The rows of a table of n times n numbers, to be read. -/
def TRd (w : World) (gt n : Nat) (R : Nat → List Int) : Prop := ∀ i, i < n → ∃ a c, w.cell? ⟨gt, i, none⟩ = some (.slice (some a) n c) ∧ Rd w (some a) (R i)
theorem TRd.below {w w' : World} {gt n : Nat} {R : Nat → List Int} (h : TRd w gt n R) (hb : Below w.heap.size w w') : TRd w' gt n R := fun i hi => by
  obtain ⟨a, c, q1, q2⟩ := h i hi
  exact ⟨a, c, by rw [hb.cell (p := ⟨gt, i, none⟩) (block_lt_of_cell q1)]; exact q1, q2.below hb⟩
set_option maxRecDepth 100000 in
set_option maxHeartbeats 1000000 in
theorem eqTT (gt gt' n ct ct' : Nat) (R : Nat → List Int) (hl : ∀ i, (R i).length = n) (hn : n ≤ 1000) (w : World) (hR : TRd w gt n R) (hQ : TRd w gt' n R) :
    Calls Try.prog 21 #[.slice (some ⟨gt, 0, none⟩) n ct, .slice (some ⟨gt', 0, none⟩) n ct'] w fun e w' => e = .returned (.bool true) ∧ Below w.heap.size w w' := by
  have HR := Lib.hid hR
  have HQ := Lib.hid hQ
  have HL := Lib.hid hl
  clear hR hQ hl
  go_enter Try.func21, Try.ntmps21
  go_wp2
  go_loopw [5] (fun i wr => ∃ k : Nat, k ≤ n ∧ i = .int .i64 k ∧ Below w.heap.size w wr) (fun i _ => ((n : Int) - intOf i).toNat)
  case atStart => exact ⟨0, by omega, rfl, Below.refl _ _⟩
  case round =>
    obtain ⟨k, hk, rfl, hB⟩ := hrel
    by_cases hlt : k < n
    · obtain ⟨a, c, q1, q2⟩ := (HR.out.below hB) k hlt
      obtain ⟨a', c', q3, q4⟩ := (HQ.out.below hB) k hlt
      have i1 : (k : Int) < (n : Int) := by omega
      have x0 := fun d os => cell_regrown q1 d os
      have x1 := fun d os => cell_regrown q3 d os
      have ci : ∀ d os, Calls Try.prog 26 #[.slice (some a) n c, .slice (some a') n c'] (Sort.grow (redrawn wr d) os) fun e w'' => e = .returned (.bool true) ∧ ∃ p : Regrown, w'' = Sort.grow (redrawn wr p.d) p.os := fun d os => Calls.regrown_of (by
        have := eqI_same (some a) (some a') c c' (R k) (by rw [HL.out]; omega) (Sort.grow (redrawn wr d) os) (q2.below (below_regrown wr d os)) (q4.below (below_regrown wr d os))
        rw [HL.out] at this; exact this)
      clear q1 q2 q3 q4
      go_wp2
      refine wp_region_quiet_below (by kernel_rfl) (by kernel_rfl) ?_
      iterate 10 (go_big_quiet_step (first | exact ci _ _))
      refine wpQuiet_nil ?_
      intro _ hw'
      obtain ⟨⟨dq, osq⟩, hw''⟩ := hw'
      subst hw''
      have b3 := hB.trans ((below_regrown wr dq osq).mono hB.size)
      go_wp2
      go_roundw
      case rel => exact ⟨k + 1, by omega, by go_num, b3⟩
      case measure => simp [intOf]; omega
    · have e : k = n := by omega
      subst e
      go_wp2
      go_ret
      exact ⟨rfl, hB⟩
/-- The numbers from A on, j of them, are marks from k on. -/
def MkO (ns ns' : List Int) (A : Nat) (k : Int) (j : Nat) : Prop := ns'.length = ns.length ∧ ∀ t, ns'.getD t 0 = if A ≤ t ∧ t < A + j then k + ((t : Int) - A) else ns.getD t 0
theorem MkO.step {ns ns' : List Int} {A : Nat} {k : Int} {j : Nat} (h : MkO ns ns' A k j) (hl : A + j < ns.length) : MkO ns (ns'.set (A + j) (k + j)) A k (j + 1) := by
  refine ⟨by rw [List.length_set, h.1], fun t => ?_⟩
  by_cases e : A + j = t
  · subst e
    rw [List.getD_eq_getElem?_getD, List.getElem?_set_self (by rw [h.1]; exact hl), if_pos (by omega)]
    simp only [Option.getD_some]; omega
  · rw [List.getD_eq_getElem?_getD, List.getElem?_set_ne e, ← List.getD_eq_getElem?_getD, h.2 t]
    by_cases e2 : A ≤ t ∧ t < A + j
    · rw [if_pos e2, if_pos (by omega)]
    · rw [if_neg e2, if_neg (by omega)]
set_option maxRecDepth 100000 in
set_option maxHeartbeats 1000000 in
theorem markO (g A n cap : Nat) (ns : List Int) (hl : A + n ≤ ns.length) (hn : n ≤ 1000) (k : Int) (k0 : 0 ≤ k) (k2 : k ≤ 4194304) (w : World) (hO : Own w g (icells ns) 2) :
    Calls Try.prog 27 #[.slice (some ⟨g, A, none⟩) n cap, .int .i64 k] w fun e w' => e = .returned (.int .i64 (k + n)) ∧ ∃ ns', MkO ns ns' A k n ∧ Own w' g (icells ns') 2 ∧ Only g w w' := by
  have HL := Lib.hid hl
  clear hl
  go_enter Try.func27, Try.ntmps27
  go_wp2
  go_loopw [1, 5] (fun q i wr => ∃ (j : Nat) (ns' : List Int), j ≤ n ∧ i = .int .i64 j ∧ q = .int .i64 (k + j) ∧ Hid (MkO ns ns' A k j) ∧ Own wr g (icells ns') 2 ∧ Only g w wr) (fun _ i _ => ((n : Int) - intOf i).toNat)
  case atStart => exact ⟨0, ns, by omega, rfl, by simp, Lib.hid ⟨rfl, fun t => by rw [if_neg (by omega)]⟩, hO, Only.refl _ _⟩
  case round =>
    clear hO
    obtain ⟨j, ns', hj, rfl, rfl, hM, hO, hBB⟩ := hrel
    by_cases hlt : j < n
    · have hks : A + j < ns.length := by have := HL.out; omega
      have c2 := hO.cell (A + j)
      rw [icells_get _ _ (by rw [hM.out.1]; exact hks)] at c2
      have f2 := hO.free (A + j)
      have hO2 := hO.set (A + j) (.int .i64 (k + j))
      rw [icells_set] at hO2
      have K1 := Lib.hid hO2
      have K2 := Lib.hid (hBB.trans (Only.set g (A + j) _ (.int .i64 (k + j))))
      have hM2 := Lib.hid (hM.out.step hks)
      have i1 : (j : Int) < (n : Int) := by omega
      clear hO2 hO hBB hM
      go_wp2
      go_roundw
      case rel => exact ⟨j + 1, _, by omega, by go_num, by go_num, hM2, K1.out, K2.out⟩
      case measure => simp [intOf]; omega
    · have e : j = n := by omega
      subst e
      go_wp2
      go_ret
      exact ⟨rfl, ns', hM.out, hO, hBB⟩
end Go.Proofs.Ythofkmndgedkgaa
