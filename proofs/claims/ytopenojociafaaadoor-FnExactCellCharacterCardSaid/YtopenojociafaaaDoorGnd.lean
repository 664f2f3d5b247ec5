/- The laws' comparisons, marks and holds of tables, for any table whose rows lie in one block. Tables of both kinds, to be read. CellTable and CellCharacter: both contracts, and the laws. CellCharacter: both contracts, and the law. -/
import Derived.Test.YtopenojociafaaaDoorGma
import Derived.Test.YtopenojociafaaaDoorGmd
import Derived.Lib.QuietBelow
import Derived.BigQuiet
import Derived.Test.YtopenojociafaaaDoorGmb
import Derived.Test.YtopenojociafaaaDoorGnc
import Derived.Test.YtopenojociafaaaDoorIsI
import Derived.Test.YtopenojociafaaaDoorLawD
namespace Go.Proofs.YtopenojociafaaaDoor
open Go.RowKit Go.BigFrame
set_option linter.unusedVariables false
set_option linter.unusedSimpArgs false
theorem Own.neTa {w : World} {b b' : Nat} {cs cs' : Array Value} {t t' : TypeId} (h : Own w b cs t) (h' : Own w b' cs' t') (ht : t ≠ t') : b ≠ b' := by
  rintro rfl
  have : some (Obj.cells cs t (0, 0)) = some (Obj.cells cs' t' (0, 0)) := (show w.heap[b]? = _ from h).symm.trans h'
  simp at this
  exact ht this.2
/-- The rows of a table of n times n numbers, to be read. -/
def TRd (w : World) (gt n : Nat) (R : Nat → List Int) : Prop := ∀ i, i < n → ∃ a c, w.cell? ⟨gt, i, none⟩ = some (.slice (some a) n c) ∧ Rd w (some a) (R i)
theorem TRd.below {w w' : World} {gt n : Nat} {R : Nat → List Int} (h : TRd w gt n R) (hb : Below w.heap.size w w') : TRd w' gt n R := fun i hi => by
  obtain ⟨a, c, q1, q2⟩ := h i hi
  exact ⟨a, c, by rw [hb.cell (p := ⟨gt, i, none⟩) (block_lt_of_cell q1)]; exact q1, q2.below hb⟩
set_option maxRecDepth 100000 in
set_option maxHeartbeats 1000000 in
theorem eqTT (gt gt' n ct ct' : Nat) (R : Nat → List Int) (hl : ∀ i, (R i).length = n) (hn : n ≤ 1000) (w : World) (hR : TRd w gt n R) (hQ : TRd w gt' n R) :
    Calls Tryd.prog 9 #[.slice (some ⟨gt, 0, none⟩) n ct, .slice (some ⟨gt', 0, none⟩) n ct'] w fun e w' => e = .returned (.bool true) ∧ Below w.heap.size w w' := by
  have HR := Lib.hid hR
  have HQ := Lib.hid hQ
  have HL := Lib.hid hl
  clear hR hQ hl
  go_enter Tryd.func9, Tryd.ntmps9
  go_wp2
  go_loopw [5] (fun i wr => ∃ k : Nat, k ≤ n ∧ i = .int .i64 k ∧ Below w.heap.size w wr) (fun i _ => ((n : Int) - intOf i).toNat)
  case atStart => exact ⟨0, by omega, rfl, Below.refl _ _⟩
  case round =>
    obtain ⟨k, hk, rfl, hB⟩ := hrel
    by_cases hlt : k < n
    · obtain ⟨a, c, q1, q2⟩ := (HR.out.below hB) k hlt
      obtain ⟨a', c', q3, q4⟩ := (HQ.out.below hB) k hlt
      have i1 : (k : Int) < (n : Int) := by omega
      have x0 := fun d os => cell_regrown q1 d os
      have x1 := fun d os => cell_regrown q3 d os
      have ci : ∀ d os, Calls Tryd.prog 28 #[.slice (some a) n c, .slice (some a') n c'] (Sort.grow (redrawn wr d) os) fun e w'' => e = .returned (.bool true) ∧ ∃ p : Regrown, w'' = Sort.grow (redrawn wr p.d) p.os := fun d os => Calls.regrown_of (by
        have := eqI_same (some a) (some a') c c' (R k) (by rw [HL.out]; omega) (Sort.grow (redrawn wr d) os) (q2.below (below_regrown wr d os)) (q4.below (below_regrown wr d os))
        rw [HL.out] at this; exact this)
      clear q1 q2 q3 q4
      go_wp2
      refine wp_region_quiet_below (by kernel_rfl) (by kernel_rfl) ?_
      iterate 10 (go_big_quiet_step (first | exact ci _ _))
      refine wpQuiet_nil ?_
      intro _ hw'
      obtain ⟨⟨dq, osq⟩, hw''⟩ := hw'
      subst hw''
      have b3 := hB.trans ((below_regrown wr dq osq).mono hB.size)
      go_wp2
      go_roundw
      case rel => exact ⟨k + 1, by omega, by go_num, b3⟩
      case measure => simp [intOf]; omega
    · have e : k = n := by omega
      subst e
      go_wp2
      go_ret
      exact ⟨rfl, hB⟩
/-- The numbers from A on, j of them, are marks from k on. -/
def MkO (ns ns' : List Int) (A : Nat) (k : Int) (j : Nat) : Prop := ns'.length = ns.length ∧ ∀ t, ns'.getD t 0 = if A ≤ t ∧ t < A + j then k + ((t : Int) - A) else ns.getD t 0
theorem MkO.step {ns ns' : List Int} {A : Nat} {k : Int} {j : Nat} (h : MkO ns ns' A k j) (hl : A + j < ns.length) : MkO ns (ns'.set (A + j) (k + j)) A k (j + 1) := by
  refine ⟨by rw [List.length_set, h.1], fun t => ?_⟩
  by_cases e : A + j = t
  · subst e
    rw [List.getD_eq_getElem?_getD, List.getElem?_set_self (by rw [h.1]; exact hl), if_pos (by omega)]
    simp only [Option.getD_some]; omega
  · rw [List.getD_eq_getElem?_getD, List.getElem?_set_ne e, ← List.getD_eq_getElem?_getD, h.2 t]
    by_cases e2 : A ≤ t ∧ t < A + j
    · rw [if_pos e2, if_pos (by omega)]
    · rw [if_neg e2, if_neg (by omega)]
set_option maxRecDepth 100000 in
set_option maxHeartbeats 1000000 in
theorem markO (g A n cap : Nat) (ns : List Int) (hl : A + n ≤ ns.length) (hn : n ≤ 1000) (k : Int) (k0 : 0 ≤ k) (k2 : k ≤ 4194304) (w : World) (hO : Own w g (icells ns) 2) :
    Calls Tryd.prog 29 #[.slice (some ⟨g, A, none⟩) n cap, .int .i64 k] w fun e w' => e = .returned (.int .i64 (k + n)) ∧ ∃ ns', MkO ns ns' A k n ∧ Own w' g (icells ns') 2 ∧ Only g w w' := by
  have HL := Lib.hid hl
  clear hl
  go_enter Tryd.func29, Tryd.ntmps29
  go_wp2
  go_loopw [1, 5] (fun q i wr => ∃ (j : Nat) (ns' : List Int), j ≤ n ∧ i = .int .i64 j ∧ q = .int .i64 (k + j) ∧ Hid (MkO ns ns' A k j) ∧ Own wr g (icells ns') 2 ∧ Only g w wr) (fun _ i _ => ((n : Int) - intOf i).toNat)
  case atStart => exact ⟨0, ns, by omega, rfl, by simp, Lib.hid ⟨rfl, fun t => by rw [if_neg (by omega)]⟩, hO, Only.refl _ _⟩
  case round =>
    clear hO
    obtain ⟨j, ns', hj, rfl, rfl, hM, hO, hBB⟩ := hrel
    by_cases hlt : j < n
    · have hks : A + j < ns.length := by have := HL.out; omega
      have c2 := hO.cell (A + j)
      rw [icells_get _ _ (by rw [hM.out.1]; exact hks)] at c2
      have f2 := hO.free (A + j)
      have hO2 := hO.set (A + j) (.int .i64 (k + j))
      rw [icells_set] at hO2
      have K1 := Lib.hid hO2
      have K2 := Lib.hid (hBB.trans (Only.set g (A + j) _ (.int .i64 (k + j))))
      have hM2 := Lib.hid (hM.out.step hks)
      have i1 : (j : Int) < (n : Int) := by omega
      clear hO2 hO hBB hM
      go_wp2
      go_roundw
      case rel => exact ⟨j + 1, _, by omega, by go_num, by go_num, hM2, K1.out, K2.out⟩
      case measure => simp [intOf]; omega
    · have e : j = n := by omega
      subst e
      go_wp2
      go_ret
      exact ⟨rfl, ns', hM.out, hO, hBB⟩
/-- A table whose rows lie in the block g1. -/
structure PT (w : World) (B g1 g2 n : Nat) (cs : Array Value) (ns : List Int) : Prop where
  b1 : B ≤ g1
  b2 : B ≤ g2
  o1 : Own w g1 (icells ns) 2
  o2 : Own w g2 cs 48
  rof : Rof cs g1 n n
  len : n * n ≤ ns.length
theorem PT.below {w w' : World} {B g1 g2 n : Nat} {cs : Array Value} {ns : List Int} (h : PT w B g1 g2 n cs ns) (hb : Below w.heap.size w w') : PT w' B g1 g2 n cs ns :=
  ⟨h.b1, h.b2, h.o1.below hb h.o1.lt, h.o2.below hb h.o2.lt, h.rof, h.len⟩
theorem PT.trd {w : World} {B g1 g2 n : Nat} {cs : Array Value} {ns : List Int} (h : PT w B g1 g2 n cs ns) (R : Nat → List Int) (hl : ∀ i, (R i).length = n) (hR : ∀ i j, i < n → j < n → ns.getD (i * n + j) 0 = (R i).getD j 0) : TRd w g2 n R := fun i hi => by
  refine ⟨⟨g1, i * n, none⟩, n, by rw [h.o2.cell]; exact h.rof.2 i hi, fun a e j hj => ?_, fun e => by cases e⟩
  cases e
  rw [hl] at hj
  have hin : i * n + j < ns.length := by
    have h0 := h.len
    have := Nat.mul_le_mul_right n (show i + 1 ≤ n by omega)
    rw [Nat.succ_mul] at this; omega
  rw [show (⟨g1, i * n, none⟩ : Addr).add j = ⟨g1, i * n + j, none⟩ by rw [Addr.add_mid], h.o1.cell, icells_get _ _ hin, hR i j hi hj]
/-- The marks of the row i. -/
def mkR (n : Nat) (i : Nat) : List Int := marksI (1 + ((i * n : Nat) : Int)) n
set_option maxRecDepth 100000 in
set_option maxHeartbeats 1000000 in
theorem markTT (B g1 g2 n : Nat) (cs : Array Value) (ns : List Int) (hn : n ≤ 200) (P : Nat) (hP : n * n = P) (hP2 : P ≤ 100000) (w : World) (h : PT w B g1 g2 n cs ns) :
    Calls Tryd.prog 10 #[.slice (some ⟨g2, 0, none⟩) n n, .int .i64 1] w fun e w' => e = .returned (.int .i64 (1 + (P : Int))) ∧ (∃ ns', PT w' B g1 g2 n cs ns' ∧ ∀ i j, i < n → j < n → ns'.getD (i * n + j) 0 = (mkR n i).getD j 0) ∧ Below B w w' := by
  have HH := Lib.hid h
  have HP := Lib.hid hP
  have hne : g2 ≠ g1 := Own.neTa h.o2 h.o1 (by decide)
  have o1 := h.o1
  have o2 := h.o2
  have hlen := Lib.hid (show P ≤ ns.length from hP ▸ h.len)
  have hb1 := h.b1
  clear h hP
  go_enter Tryd.func10, Tryd.ntmps10
  go_wp2
  go_loopw [1, 5] (fun q i wr => ∃ (k T : Nat) (ns' : List Int), k ≤ n ∧ i = .int .i64 k ∧ q = .int .i64 (1 + (T : Int)) ∧ Hid (k * n = T) ∧ T ≤ P ∧ Hid (P ≤ ns'.length) ∧ Hid (∀ t, t < T → ns'.getD t 0 = 1 + (t : Int)) ∧ Own wr g1 (icells ns') 2 ∧ Own wr g2 cs 48 ∧ Below B w wr) (fun _ i _ => ((n : Int) - intOf i).toNat)
  case atStart => exact ⟨0, 0, ns, by omega, rfl, rfl, Lib.hid (by simp), by omega, hlen, Lib.hid (fun t ht => by omega), o1, o2, Below.refl _ _⟩
  case round =>
    clear o1 o2 hlen
    obtain ⟨k, T, ns', hk, rfl, rfl, hT, hTP, hl, hM, o1, o2, hB⟩ := hrel
    by_cases hlt : k < n
    · have hT2 := Lib.hid (show (k + 1) * n = T + n by rw [Nat.succ_mul, hT.out])
      have hTn : T + n ≤ P := by rw [← hT2.out, ← HP.out]; exact Nat.mul_le_mul_right n (by omega)
      have c1 : wr.cell? ⟨g2, k, none⟩ = some (.slice (some ⟨g1, T, none⟩) n n) := by rw [o2.cell, ← hT.out]; exact HH.out.rof.2 k hlt
      have i1 : (k : Int) < (n : Int) := by omega
      have hC := Lib.hid (markO g1 T n n ns' (Nat.le_trans hTn hl.out) (by omega) (1 + (T : Int)) (by omega) (by omega) wr o1)
      have O2 := Lib.hid o2
      have HB := Lib.hid hB
      clear o1 o2 hB
      go_wp2_with (first
        | (go_at_call 29; ((with_reducible refine (hC.out).mono ?_); rintro e w2 ⟨rfl, ns2, hM2, hO2, hN2⟩)))
      go_roundw
      case rel =>
        refine ⟨k + 1, T + n, ns2, by omega, by go_num, by go_num, hT2, hTn, Lib.hid (by rw [hM2.1]; exact hl.out), Lib.hid (fun t ht => ?_), hO2, O2.out.only hN2 hne, HB.out.trans (hN2.below.mono hb1)⟩
        rw [hM2.2 t]
        by_cases e : T ≤ t
        · rw [if_pos ⟨e, ht⟩]; omega
        · rw [if_neg (by omega)]; exact hM.out t (by omega)
      case measure => simp [intOf]; omega
    · have e : k = n := by omega
      subst e
      have e2 : T = P := by rw [← hT.out]; exact HP.out
      subst e2
      go_wp2
      go_ret
      refine ⟨rfl, ⟨ns', ⟨hb1, HH.out.b2, o1, o2, HH.out.rof, by rw [HP.out]; exact hl.out⟩, fun i j hi hj => ?_⟩, hB⟩
      have hin : i * k + j < T := by
        rw [← HP.out]
        have := Nat.mul_le_mul_right k (show i + 1 ≤ k by omega)
        rw [Nat.succ_mul] at this; omega
      rw [hM.out _ hin, mkR, marksI_get _ _ _ hj]
      push_cast; omega
set_option maxRecDepth 100000 in
set_option maxHeartbeats 1000000 in
theorem heldTT (g2 n ct : Nat) (hn : n ≤ 200) (P : Nat) (hP : n * n = P) (hP2 : P ≤ 100000) (w : World) (h : TRd w g2 n (mkR n)) :
    Calls Tryd.prog 11 #[.slice (some ⟨g2, 0, none⟩) n ct, .int .i64 1] w fun e w' => e = .returned (.int .i64 (1 + (P : Int))) ∧ w' = w := by
  have HH := Lib.hid h
  have HP := Lib.hid hP
  clear h hP
  go_enter Tryd.func11, Tryd.ntmps11
  go_wp2
  go_loopw [1, 5] (fun q i wr => ∃ (k T : Nat), k ≤ n ∧ i = .int .i64 k ∧ q = .int .i64 (1 + (T : Int)) ∧ Hid (k * n = T) ∧ T ≤ P ∧ wr = w) (fun _ i _ => ((n : Int) - intOf i).toNat)
  case atStart => exact ⟨0, 0, by omega, rfl, rfl, Lib.hid (by simp), by omega, rfl⟩
  case round =>
    obtain ⟨k, T, hk, rfl, rfl, hT, hTP, rfl⟩ := hrel
    by_cases hlt : k < n
    · have hT2 := Lib.hid (show (k + 1) * n = T + n by rw [Nat.succ_mul, hT.out])
      have hTn : T + n ≤ P := by rw [← hT2.out, ← HP.out]; exact Nat.mul_le_mul_right n (by omega)
      obtain ⟨a, c, c1, c2⟩ := HH.out k hlt
      have i1 : (k : Int) < (n : Int) := by omega
      rw [mkR, hT.out] at c2
      have hC := Lib.hid (held_any (some a) c n (by omega) (1 + (T : Int)) (by omega) (by omega) _ c2)
      clear c2
      go_wp2_with (first
        | (go_at_call 30; ((with_reducible refine (hC.out).mono ?_); rintro e w2 ⟨rfl, rfl⟩)))
      go_roundw
      case rel => exact ⟨k + 1, T + n, by omega, by go_num, by go_num, hT2, hTn, trivial⟩
      case measure => simp [intOf]; omega
    · have e : k = n := by omega
      subst e
      have e2 : T = P := by rw [← hT.out]; exact HP.out
      subst e2
      go_wp2
      go_ret
      exact ⟨rfl, rfl⟩
theorem eqTT_nil (w : World) : Calls Tryd.prog 9 #[.slice none 0 0, .slice none 0 0] w fun e w' => e = .returned (.bool true) ∧ w' = w := by
  go_enter Tryd.func9, Tryd.ntmps9
  go_wp2
  go_loopw [5] (fun i wr => i = .int .i64 0 ∧ wr = w) (fun i _ => 0)
  case atStart => exact ⟨rfl, rfl⟩
  case round =>
    obtain ⟨rfl, rfl⟩ := hrel
    go_wp2
    go_ret
    exact ⟨rfl, rfl⟩
theorem markTT_nil (w : World) : Calls Tryd.prog 10 #[.slice none 0 0, .int .i64 1] w fun e w' => e = .returned (.int .i64 1) ∧ w' = w := by
  go_enter Tryd.func10, Tryd.ntmps10
  go_wp2
  go_loopw [1, 5] (fun q i wr => i = .int .i64 0 ∧ q = .int .i64 1 ∧ wr = w) (fun _ i _ => 0)
  case atStart => exact ⟨rfl, rfl, rfl⟩
  case round =>
    obtain ⟨rfl, rfl, rfl⟩ := hrel
    go_wp2
    go_ret
    exact ⟨rfl, rfl⟩
theorem heldTT_nil (w : World) : Calls Tryd.prog 11 #[.slice none 0 0, .int .i64 1] w fun e w' => e = .returned (.int .i64 1) ∧ w' = w := by
  go_enter Tryd.func11, Tryd.ntmps11
  go_wp2
  go_loopw [1, 5] (fun q i wr => i = .int .i64 0 ∧ q = .int .i64 1 ∧ wr = w) (fun _ i _ => 0)
  case atStart => exact ⟨rfl, rfl, rfl⟩
  case round =>
    obtain ⟨rfl, rfl, rfl⟩ := hrel
    go_wp2
    go_ret
    exact ⟨rfl, rfl⟩
end Go.Proofs.YtopenojociafaaaDoor
namespace Go.Proofs.YtopenojociafaaaDoor
open Go.RowKit
set_option linter.unusedVariables false
set_option linter.unusedSimpArgs false
theorem os_get (n i : Nat) (h : i < n) : ((List.range n).map (fun i => i * n)).getD i 0 = i * n := by simp [List.getD_eq_getElem?_getD, h]
theorem Tbd.pt {w : World} {B g1 g2 n : Nat} {R : List (List Int)} (h : Tbd w g1 g2 n n ((List.range n).map (fun i => i * n)) R) (b1 : B ≤ g1) (b2 : B ≤ g2) (F : Nat → List Int) (hl : ∀ i, (F i).length = n) (hF : ∀ i, i < n → F i = rw' R i) :
    ∃ cs ns, PT w B g1 g2 n cs ns ∧ TRd w g2 n F := by
  obtain ⟨ns, o1, o2, hL⟩ := h.mem
  have hP : PT w B g1 g2 n (hdr g1 n ((List.range n).map (fun i => i * n))) ns := ⟨b1, b2, o1, o2, ⟨by simp [hdr], fun i hi => by rw [hdr_get _ _ _ _ (by simpa using hi), os_get n i hi]⟩, by
    by_cases h0 : n = 0
    · subst h0; simp
    · have := hL.room (n - 1) (by omega)
      rw [os_get n _ (by omega)] at this
      have e : (n - 1) * n + n = n * n := by
        rw [← Nat.succ_mul]; congr 1; omega
      omega⟩
  refine ⟨_, ns, hP, hP.trd F hl (fun i j hi hj => ?_)⟩
  rw [hF i hi, ← hL.at_ i j hi hj, os_get n i hi]
theorem RwG.trd {w : World} {B g cap n : Nat} {R : Nat → List Int} {vs : List Value} (hl : ∀ i, (R i).length = n) (hR : Rws w B (.slice (some ⟨g, 0, none⟩) n cap) vs) (hn : vs.length = n) (hT : RwG w B R n vs n) : TRd w g n R := by
  rcases hR.shape with ⟨s1, s2⟩ | ⟨g', cap', s1, s2, s3, s4⟩
  · cases s1
  · cases s1
    intro i hi
    obtain ⟨ga, ca, r1, r2⟩ := hT i hi
    refine ⟨⟨ga, 0, none⟩, ca, by rw [s4 i (by omega)]; exact r1, fun a e j hj => ?_, fun e => by cases e⟩
    cases e
    rw [show (⟨ga, 0, none⟩ : Addr).add j = ⟨ga, j, none⟩ by rw [Addr.add_mid, Nat.zero_add]]
    exact r2.cell j hj
end Go.Proofs.YtopenojociafaaaDoor
namespace Go.Proofs.YtopenojociafaaaDoor
open Go.RowKit
set_option linter.unusedVariables false
set_option linter.unusedSimpArgs false
def cmodC (p c : Int) : Bool := primeB p && decide (0 ≤ c ∧ c < p)
/-- Sizes and open points that go together. -/
abbrev cOk (n k : Int) : Prop := (1 ≤ n ∧ n ≤ 6) ∧ 0 ≤ k ∧ k ≤ n ∧ (n - k) % 2 = 0
def cCode (p c n k : Int) (ms : List Int) : Int := if isD n ms = false then 1 else if primeB p = true ∧ (0 ≤ c ∧ c < p) ∧ cOk n k then 0 else 2
theorem codeS_any (p c n k : Int) (ms : List Int) (hms : ms.length = 16) (hb : Bytes ms) (hr : -9223372036854775808 ≤ p ∧ p ≤ 9223372036854775807) (w : World) :
    Calls Tryd.prog 31 #[.int .i64 p, .int .i64 c, .agg (dcells n ms), .int .i64 k] w fun e w' => e = .returned (.int .i64 (cCode p c n k ms)) ∧ Below w.heap.size w w' := by
  have hl := Lib.hid hms
  have hi := Lib.hid (fun w => l01Is_dec n ms hms hb w)
  cases hd : isD n ms with
  | false =>
    have e : cCode p c n k ms = 1 := by unfold cCode; rw [if_pos hd]
    rw [e]
    rw [hd] at hi
    clear e hd hms hb
    go_enter Tryd.func31, Tryd.ntmps31
    go_wp2_with (first
      | (refine wpList_load_row rfl 32 _ rfl _ rfl 32 _ (0, 0) _ (Own.new _ _ _) Tryd.underlying32 rfl (row26 (d17 _ _ (hl.out))) ?_)
      | (go_at_call 55; ((with_reducible refine (hi.out _).mono ?_); rintro e w1 ⟨rfl, hB0⟩; have hBa : Below w.heap.size w w1 := ((Below.refl _ w).alloc (Nat.le_refl _) _).trans (hB0.mono (by simp)))))
    go_ret
    exact ⟨rfl, hBa⟩
  | true =>
    rw [hd] at hi
    have hn := Lib.hid (fun w => (numS_any p c w hr).mono fun e w' h => (show e = .returned (.bool (primeB p && decide (0 ≤ c ∧ c < p))) ∧ w = w' from ⟨h.1, h.2.symm⟩))
    cases hmc : (primeB p && decide (0 ≤ c ∧ c < p)) with
    | false =>
      have e : cCode p c n k ms = 2 := by
        unfold cCode
        rw [if_neg (by rw [hd]; simp), if_neg]
        rintro ⟨a1, a2, _⟩
        rw [a1, decide_eq_true a2] at hmc
        cases hmc
      rw [e]
      rw [hmc] at hn
      clear e hd hms hb hmc
      go_enter Tryd.func31, Tryd.ntmps31
      go_wp2_with (first
        | (refine wpList_load_row rfl 32 _ rfl _ rfl 32 _ (0, 0) _ (Own.new _ _ _) Tryd.underlying32 rfl (row26 (d17 _ _ (hl.out))) ?_)
        | (go_at_call 41; ((with_reducible refine (hn.out _).mono ?_); rintro e w9 ⟨rfl, rfl⟩))
        | (go_at_call 55; ((with_reducible refine (hi.out _).mono ?_); rintro e w1 ⟨rfl, hB0⟩; have hBa : Below w.heap.size w w1 := ((Below.refl _ w).alloc (Nat.le_refl _) _).trans (hB0.mono (by simp)))))
      go_ret
      exact ⟨rfl, hBa⟩
    | true =>
      rw [hmc] at hn
      rw [Bool.and_eq_true, decide_eq_true_eq] at hmc
      by_cases hc : cOk n k
      · have e : cCode p c n k ms = 0 := by
          unfold cCode
          rw [if_neg (by rw [hd]; simp), if_pos ⟨hmc.1, hmc.2, hc⟩]
        rw [e]
        have hrg := Lib.hid (fun w => rangeS_t n k 6 w hc (by omega))
        clear e hd hms hb hmc hc
        go_enter Tryd.func31, Tryd.ntmps31
        go_wp2_with (first
          | (refine wpList_load_row rfl 32 _ rfl _ rfl 32 _ (0, 0) _ (Own.new _ _ _) Tryd.underlying32 rfl (row26 (d17 _ _ (hl.out))) ?_)
          | (go_at_call 41; ((with_reducible refine (hn.out _).mono ?_); rintro e w9 ⟨rfl, rfl⟩))
          | (go_at_call 42; ((with_reducible refine (hrg.out _).mono ?_); rintro e w9 ⟨rfl, rfl⟩))
          | (go_at_call 55; ((with_reducible refine (hi.out _).mono ?_); rintro e w1 ⟨rfl, hB0⟩; have hBa : Below w.heap.size w w1 := ((Below.refl _ w).alloc (Nat.le_refl _) _).trans (hB0.mono (by simp)); have R1 : Own w1 w.heap.size (dcells n ms) 32 := (Own.new w _ _).below hB0 (by simp); have k1 := R1.cell 0; rw [dcells_zero] at k1)))
        go_ret
        exact ⟨rfl, hBa⟩
      · have e : cCode p c n k ms = 2 := by
          unfold cCode
          rw [if_neg (by rw [hd]; simp), if_neg (fun h => hc h.2.2)]
        rw [e]
        have hrg := Lib.hid (fun w => rangeS_f n k 6 w hc (by omega))
        clear e hd hms hb hmc hc
        go_enter Tryd.func31, Tryd.ntmps31
        go_wp2_with (first
          | (refine wpList_load_row rfl 32 _ rfl _ rfl 32 _ (0, 0) _ (Own.new _ _ _) Tryd.underlying32 rfl (row26 (d17 _ _ (hl.out))) ?_)
          | (go_at_call 41; ((with_reducible refine (hn.out _).mono ?_); rintro e w9 ⟨rfl, rfl⟩))
          | (go_at_call 42; ((with_reducible refine (hrg.out _).mono ?_); rintro e w9 ⟨rfl, rfl⟩))
          | (go_at_call 55; ((with_reducible refine (hi.out _).mono ?_); rintro e w1 ⟨rfl, hB0⟩; have hBa : Below w.heap.size w w1 := ((Below.refl _ w).alloc (Nat.le_refl _) _).trans (hB0.mono (by simp)); have R1 : Own w1 w.heap.size (dcells n ms) 32 := (Own.new w _ _).below hB0 (by simp); have k1 := R1.cell 0; rw [dcells_zero] at k1)))
        go_ret
        exact ⟨rfl, hBa⟩
/-- The model's table, by its code. -/
theorem ctabS_bad (p c n k : Int) (ms : List Int) (hms : ms.length = 16) (C : Int) (hC : C ≠ 0) (w : World)
    (hc0 : ∀ w, Calls Tryd.prog 31 #[.int .i64 p, .int .i64 c, .agg (dcells n ms), .int .i64 k] w fun e w' => e = .returned (.int .i64 C) ∧ Below w.heap.size w w') :
    Calls Tryd.prog 12 #[.int .i64 p, .int .i64 c, .agg (dcells n ms), .int .i64 k] w fun e w' => e = .returned (.tuple #[.slice none 0 0, .int .i64 C]) ∧ Below w.heap.size w w' := by
  have hl := Lib.hid hms
  have hc := Lib.hid hc0
  clear hc0 hms
  go_enter Tryd.func12, Tryd.ntmps12
  go_wp2_with (first
    | (refine wpList_load_row rfl 32 _ rfl _ rfl 32 _ (0, 0) _ (Own.new _ _ _) Tryd.underlying32 rfl (row26 (d17 _ _ (hl.out))) ?_)
    | (go_at_call 31; ((with_reducible refine (hc.out _).mono ?_); rintro e w1 ⟨rfl, hB0⟩; have hBa : Below w.heap.size w w1 := ((Below.refl _ w).alloc (Nat.le_refl _) _).trans (hB0.mono (by simp)))))
  go_ret2
  exact ⟨rfl, hBa⟩
theorem ctabS_ok (p c n k : Int) (ms : List Int) (hms : ms.length = 16) (M : Nat) (F : Nat → List Int) (w : World)
    (hc0 : ∀ w, Calls Tryd.prog 31 #[.int .i64 p, .int .i64 c, .agg (dcells n ms), .int .i64 k] w fun e w' => e = .returned (.int .i64 0) ∧ Below w.heap.size w w')
    (hG0 : ∀ w, Calls Tryd.prog 32 #[.int .i64 p, .int .i64 c, .agg (dcells n ms), .int .i64 k] w fun e w' => ∃ g2 cap, e = .returned (.slice (some ⟨g2, 0, none⟩) M cap) ∧ TRd w' g2 M F ∧ Below w.heap.size w w') :
    Calls Tryd.prog 12 #[.int .i64 p, .int .i64 c, .agg (dcells n ms), .int .i64 k] w fun e w' => ∃ gt ct, e = .returned (.tuple #[.slice (some ⟨gt, 0, none⟩) M ct, .int .i64 0]) ∧ TRd w' gt M F ∧ Below w.heap.size w w' := by
  have hl := Lib.hid hms
  have hc := Lib.hid hc0
  have hG := Lib.hid hG0
  clear hc0 hG0 hms
  go_enter Tryd.func12, Tryd.ntmps12
  go_wp2_with (first
    | (refine wpList_load_row rfl 32 _ rfl _ rfl 32 _ (0, 0) _ (R1) Tryd.underlying32 rfl (row26 (d17 _ _ (hl.out))) ?_)
    | (refine wpList_load_row rfl 32 _ rfl _ rfl 32 _ (0, 0) _ (Own.new _ _ _) Tryd.underlying32 rfl (row26 (d17 _ _ (hl.out))) ?_)
    | (go_at_call 32; ((with_reducible refine (hG.out _).mono ?_); rintro e w2 ⟨g2, cap, rfl, hT, hB2⟩))
    | (go_at_call 31; ((with_reducible refine (hc.out _).mono ?_); rintro e w1 ⟨rfl, hB0⟩; have R1 : Own w1 w.heap.size (dcells n ms) 32 := (Own.new w _ _).below hB0 (by simp); have hBa : Below w.heap.size w w1 := ((Below.refl _ w).alloc (Nat.le_refl _) _).trans (hB0.mono (by simp)))))
  go_ret2
  exact ⟨g2, cap, rfl, hT, hBa.trans (hB2.mono hBa.size)⟩
theorem ctabI_bad (p c n k : Int) (ms : List Int) (hms : ms.length = 16) (hb : Bytes ms) (hk : -9223372036854775808 ≤ k ∧ k ≤ 9223372036854775807) (h : cCode p c n k ms ≠ 0) (w : World) :
    Calls Tryd.prog 14 #[.int .i64 p, .int .i64 c, .agg (dcells n ms), .int .i64 k] w fun e w' => e = .returned (.tuple #[.slice none 0 0, .int .i64 (cCode p c n k ms)]) ∧ Below w.heap.size w w' := by
  have hl := Lib.hid hms
  have hi := Lib.hid (fun w => isI_any n ms hms hb w)
  cases hd : isD n ms with
  | false =>
    have e : cCode p c n k ms = 1 := by unfold cCode; rw [if_pos hd]
    rw [e]
    rw [hd] at hi
    clear e hd hms hb h
    go_enter Tryd.func14, Tryd.ntmps14
    go_wp2_with (first
      | (refine wpList_load_row rfl 32 _ rfl _ rfl 32 _ (0, 0) _ (Own.new _ _ _) Tryd.underlying32 rfl (row26 (d17 _ _ (hl.out))) ?_)
      | (go_at_call 34; ((with_reducible refine (hi.out _).mono ?_); rintro e w1 ⟨rfl, hB0⟩; have hBa : Below w.heap.size w w1 := ((Below.refl _ w).alloc (Nat.le_refl _) _).trans (hB0.mono (by simp)))))
    go_ret2
    exact ⟨rfl, hBa⟩
  | true =>
    rw [hd] at hi
    have e : cCode p c n k ms = 2 := by
      unfold cCode at h ⊢
      rw [if_neg (by rw [hd]; simp)] at h ⊢
      split at h
      · exact absurd rfl h
      · rename_i hh; rw [if_neg hh]
    have hno : ¬ (primeB p = true ∧ (0 ≤ c ∧ c < p) ∧ cOk n k) := fun hh => by
      unfold cCode at h
      rw [if_neg (by rw [hd]; simp), if_pos hh] at h
      exact h rfl
    rw [e]
    have hn := Lib.hid (fun w => (modI_any p c w).mono fun e w' h => (show e = .returned (.bool (primeB p && decide (0 ≤ c ∧ c < p))) ∧ w = w' from ⟨h.1, h.2.symm⟩))
    cases hmc : (primeB p && decide (0 ≤ c ∧ c < p)) with
    | false =>
      rw [hmc] at hn
      clear e hd hms hb hmc hno h
      go_enter Tryd.func14, Tryd.ntmps14
      go_wp2_with (first
        | (refine wpList_load_row rfl 32 _ rfl _ rfl 32 _ (0, 0) _ (Own.new _ _ _) Tryd.underlying32 rfl (row26 (d17 _ _ (hl.out))) ?_)
        | (go_at_call 21; ((with_reducible refine (hn.out _).mono ?_); rintro e w9 ⟨rfl, rfl⟩))
        | (go_at_call 34; ((with_reducible refine (hi.out _).mono ?_); rintro e w1 ⟨rfl, hB0⟩; have hBa : Below w.heap.size w w1 := ((Below.refl _ w).alloc (Nat.le_refl _) _).trans (hB0.mono (by simp)))))
      go_ret2
      exact ⟨rfl, hBa⟩
    | true =>
      rw [hmc] at hn
      rw [Bool.and_eq_true, decide_eq_true_eq] at hmc
      by_cases h6 : 6 < n
      · clear e hd hms hb hmc hno h
        go_enter Tryd.func14, Tryd.ntmps14
        go_wp2_with (first
          | (refine wpList_load_row rfl 32 _ rfl _ rfl 32 _ (0, 0) _ (Own.new _ _ _) Tryd.underlying32 rfl (row26 (d17 _ _ (hl.out))) ?_)
          | (go_at_call 21; ((with_reducible refine (hn.out _).mono ?_); rintro e w9 ⟨rfl, rfl⟩))
          | (go_at_call 34; ((with_reducible refine (hi.out _).mono ?_); rintro e w1 ⟨rfl, hB0⟩; have hBa : Below w.heap.size w w1 := ((Below.refl _ w).alloc (Nat.le_refl _) _).trans (hB0.mono (by simp)); have R1 : Own w1 w.heap.size (dcells n ms) 32 := (Own.new w _ _).below hB0 (by simp); have k1 := R1.cell 0; rw [dcells_zero] at k1)))
        go_ret2
        exact ⟨rfl, hBa⟩
      · have hcI := Lib.hid (fun w => cellI_f n k w (fun hc => hno ⟨hmc.1, hmc.2, ⟨hc.1.1, by omega⟩, hc.2⟩) hk)
        clear e hd hms hb hmc hno h
        go_enter Tryd.func14, Tryd.ntmps14
        go_wp2_with (first
          | (refine wpList_load_row rfl 32 _ rfl _ rfl 32 _ (0, 0) _ (Own.new _ _ _) Tryd.underlying32 rfl (row26 (d17 _ _ (hl.out))) ?_)
          | (go_at_call 21; ((with_reducible refine (hn.out _).mono ?_); rintro e w9 ⟨rfl, rfl⟩))
          | (go_at_call 22; ((with_reducible refine (hcI.out _).mono ?_); rintro e w9 ⟨rfl, rfl⟩))
          | (go_at_call 34; ((with_reducible refine (hi.out _).mono ?_); rintro e w1 ⟨rfl, hB0⟩; have hBa : Below w.heap.size w w1 := ((Below.refl _ w).alloc (Nat.le_refl _) _).trans (hB0.mono (by simp)); have R1 : Own w1 w.heap.size (dcells n ms) 32 := (Own.new w _ _).below hB0 (by simp); have k1 := R1.cell 0; rw [dcells_zero] at k1)))
        go_ret2
        exact ⟨rfl, hBa⟩
/-- The law, when both give a table. -/
theorem ctab_good (p c : Int) (n k : Int) (ms : List Int) (hms : ms.length = 16) (M : Nat) (hM : M ≤ 200) (F : Nat → List Int) (hF : ∀ i, (F i).length = M) (W : World)
    (hS0 : ∀ w, Calls Tryd.prog 12 #[.int .i64 p, .int .i64 c, .agg (dcells n ms), .int .i64 k] w fun e w' => ∃ gt ct, e = .returned (.tuple #[.slice (some ⟨gt, 0, none⟩) M ct, .int .i64 0]) ∧ TRd w' gt M F ∧ Below w.heap.size w w')
    (hI0 : ∀ w, Below W.heap.size W w → Calls Tryd.prog 14 #[.int .i64 p, .int .i64 c, .agg (dcells n ms), .int .i64 k] w fun e w' => ∃ g1 g2 cs ns, e = .returned (.tuple #[.slice (some ⟨g2, 0, none⟩) M M, .int .i64 0]) ∧ PT w' w.heap.size g1 g2 M cs ns ∧ TRd w' g2 M F ∧ Below w.heap.size w w') :
    Calls Tryd.prog 4 #[.int .i64 p, .int .i64 c, .agg (dcells n ms), .int .i64 k] W fun e w' => e = .returned (.bool true) ∧ Below W.heap.size W w' := by
  have hl := Lib.hid hms
  have hS := Lib.hid hS0
  have hI := Lib.hid hI0
  have htd := Lib.hid (fun w => toD_any n ms hms w)
  obtain ⟨P, hP⟩ : ∃ P, M * M = P := ⟨_, rfl⟩
  have hP2 : P ≤ 100000 := by
    have := Nat.mul_le_mul hM hM
    omega
  have hq := Lib.hid (fun gt gt' ct ct' w hR hQ => eqTT gt gt' M ct ct' F hF (by omega) w hR hQ)
  have hk := Lib.hid (fun B g1 g2 cs ns w h => markTT B g1 g2 M cs ns (by omega) P hP hP2 w h)
  have hh := Lib.hid (fun g2 ct w h => heldTT g2 M ct (by omega) P hP hP2 w h)
  have hmr := Lib.hid (show ∀ i, (mkR M i).length = M from fun i => marksI_len _ _)
  clear hP hS0 hI0 hF hM hms
  go_enter Tryd.func4, Tryd.ntmps4
  go_wp2_with (first
    | (go_at_call 11; ((with_reducible refine (hh.out _ _ wb (((hT6.below hB8).below hB9).below hBb)).mono ?_); rintro e wc ⟨rfl, rfl⟩))
    | (go_at_call 9; ((with_reducible refine (hq.out _ _ _ _ w9 hT9 (hT2c.below hB9)).mono ?_); rintro e wb ⟨rfl, hBb⟩))
    | (go_at_call 14; ((with_reducible refine (hI.out w8 b8).mono ?_); rintro e w9 ⟨g1', g2', cs', ns', rfl, hP9, hT9, hB9⟩))
    | (go_at_call 13; ((with_reducible refine (htd.out w7).mono ?_); rintro e w8 ⟨rfl, hB8⟩; have b8 := b6.trans (hB8.mono b6.size); have hT2c := hT2b.below hB8))
    | (refine wpList_load_row rfl 30 _ rfl _ rfl 30 _ (0, 0) _ (R7) Tryd.underlying30 rfl (row50 (d17 _ _ (hl.out))) ?_)
    | (go_at_call 11; ((with_reducible refine (hh.out _ _ w6 hT6).mono ?_); rintro e w7 ⟨rfl, rfl⟩; have R7 := R6))
    | (go_at_call 10; ((with_reducible refine (hk.out w3.heap.size _ _ _ _ w5 (hP4.below hB5)).mono ?_); rintro e w6 ⟨rfl, ⟨ns6, hP6, hM6⟩, hB6⟩; have bq : Below w3.heap.size w3 w6 := ((hB4.trans (hB5.mono hB4.size)).trans hB6); have hT2b := hT2.below bq; have hT6 := hP6.trd (mkR M) hmr.out hM6; have R6 := R3.below bq R3.lt; have b6 := b3.trans (bq.mono b3.size)))
    | (go_at_call 9; ((with_reducible refine (hq.out _ _ _ _ w4 hT4 (hT2.below hB4)).mono ?_); rintro e w5 ⟨rfl, hB5⟩))
    | (go_at_call 14; ((with_reducible refine (hI.out w3 b3).mono ?_); rintro e w4 ⟨g1, g2, cs, ns, rfl, hP4, hT4, hB4⟩))
    | (go_at_call 13; ((with_reducible refine (htd.out w2).mono ?_); rintro e w3 ⟨rfl, hB3⟩; have b3 := b2.trans (hB3.mono b2.size); have R3 := R2.below hB3 R2.lt; have hT2 := hT2a.below hB3))
    | (refine wpList_load_row rfl 30 _ rfl _ rfl 30 _ (0, 0) _ (R2) Tryd.underlying30 rfl (row50 (d17 _ _ (hl.out))) ?_)
    | (go_at_call 12; ((with_reducible refine (hS.out w1).mono ?_); rintro e w2 ⟨gt, ct, rfl, hT2a, hB2⟩; have R2 := R1.below hB2 R1.lt; have b2 := b1.trans (hB2.mono b1.size)))
    | (go_at_call 13; ((with_reducible refine (htd.out _).mono ?_); rintro e w1 ⟨rfl, hB1⟩; have R1 : Own w1 W.heap.size (dcells n ms) 30 := (Own.new W _ _).below hB1 (by simp); have b1 : Below W.heap.size W w1 := ((Below.refl _ W).alloc (Nat.le_refl _) _).trans (hB1.mono (by simp))))
    | (refine wpList_load_row rfl 30 _ rfl _ rfl 30 _ (0, 0) _ (Own.new _ _ _) Tryd.underlying30 rfl (row50 (d17 _ _ (hl.out))) ?_))
  go_ret
  have c1 := b8.trans (hB9.mono b8.size)
  exact ⟨rfl, c1.trans (hBb.mono c1.size)⟩
theorem ctab_bad (p c n k : Int) (ms : List Int) (hms : ms.length = 16) (C : Int) (W : World)
    (hS0 : ∀ w, Calls Tryd.prog 12 #[.int .i64 p, .int .i64 c, .agg (dcells n ms), .int .i64 k] w fun e w' => e = .returned (.tuple #[.slice none 0 0, .int .i64 C]) ∧ Below w.heap.size w w')
    (hI0 : ∀ w, Calls Tryd.prog 14 #[.int .i64 p, .int .i64 c, .agg (dcells n ms), .int .i64 k] w fun e w' => e = .returned (.tuple #[.slice none 0 0, .int .i64 C]) ∧ Below w.heap.size w w') :
    Calls Tryd.prog 4 #[.int .i64 p, .int .i64 c, .agg (dcells n ms), .int .i64 k] W fun e w' => e = .returned (.bool true) ∧ Below W.heap.size W w' := by
  have hl := Lib.hid hms
  have hS := Lib.hid hS0
  have hI := Lib.hid hI0
  have htd := Lib.hid (fun w => toD_any n ms hms w)
  clear hS0 hI0 hms
  go_enter Tryd.func4, Tryd.ntmps4
  go_wp2_with (first
    | (go_at_call 11; ((with_reducible refine (heldTT_nil wb).mono ?_); rintro e wc ⟨rfl, rfl⟩))
    | (go_at_call 9; ((with_reducible refine (eqTT_nil w9).mono ?_); rintro e wb ⟨rfl, rfl⟩))
    | (go_at_call 14; ((with_reducible refine (hI.out w8).mono ?_); rintro e w9 ⟨rfl, hB9⟩))
    | (go_at_call 13; ((with_reducible refine (htd.out w7).mono ?_); rintro e w8 ⟨rfl, hB8⟩; have b8 := b4.trans (hB8.mono b4.size)))
    | (refine wpList_load_row rfl 30 _ rfl _ rfl 30 _ (0, 0) _ (R7) Tryd.underlying30 rfl (row50 (d17 _ _ (hl.out))) ?_)
    | (go_at_call 11; ((with_reducible refine (heldTT_nil w6).mono ?_); rintro e w7 ⟨rfl, rfl⟩; have R7 := R4))
    | (go_at_call 10; ((with_reducible refine (markTT_nil w5).mono ?_); rintro e w6 ⟨rfl, rfl⟩))
    | (go_at_call 9; ((with_reducible refine (eqTT_nil w4).mono ?_); rintro e w5 ⟨rfl, rfl⟩))
    | (go_at_call 14; ((with_reducible refine (hI.out w3).mono ?_); rintro e w4 ⟨rfl, hB4⟩; have b4 := b3.trans (hB4.mono b3.size); have R4 := R3.below hB4 R3.lt))
    | (go_at_call 13; ((with_reducible refine (htd.out w2).mono ?_); rintro e w3 ⟨rfl, hB3⟩; have b3 := b2.trans (hB3.mono b2.size); have R3 := R2.below hB3 R2.lt))
    | (refine wpList_load_row rfl 30 _ rfl _ rfl 30 _ (0, 0) _ (R2) Tryd.underlying30 rfl (row50 (d17 _ _ (hl.out))) ?_)
    | (go_at_call 12; ((with_reducible refine (hS.out w1).mono ?_); rintro e w2 ⟨rfl, hB2⟩; have R2 := R1.below hB2 R1.lt; have b2 := b1.trans (hB2.mono b1.size)))
    | (go_at_call 13; ((with_reducible refine (htd.out _).mono ?_); rintro e w1 ⟨rfl, hB1⟩; have R1 : Own w1 W.heap.size (dcells n ms) 30 := (Own.new W _ _).below hB1 (by simp); have b1 : Below W.heap.size W w1 := ((Below.refl _ W).alloc (Nat.le_refl _) _).trans (hB1.mono (by simp))))
    | (refine wpList_load_row rfl 30 _ rfl _ rfl 30 _ (0, 0) _ (Own.new _ _ _) Tryd.underlying30 rfl (row50 (d17 _ _ (hl.out))) ?_))
  go_ret
  exact ⟨rfl, b8.trans (hB9.mono b8.size)⟩
/-- Both tables. -/
theorem ctab_both (p c n k m : Int) (ms : List Int) (hms : ms.length = 16) (hb : Bytes ms) (w : World) (hm : Ml w m) (hr : -9223372036854775808 ≤ p ∧ p ≤ 9223372036854775807) (h0 : cCode p c n k ms = 0) :
    2 ≤ p ∧ p ≤ 97 ∧ ∃ (M : Nat) (F : Nat → List Int), M ≤ 200 ∧ (∀ i, (F i).length = M) ∧ (∀ i j, i < M → j < M → 0 ≤ (F i).getD j 0 ∧ (F i).getD j 0 < p) ∧
      (∀ w, Calls Tryd.prog 31 #[.int .i64 p, .int .i64 c, .agg (dcells n ms), .int .i64 k] w fun e w' => e = .returned (.int .i64 0) ∧ Below w.heap.size w w') ∧
      (∀ w, Calls Tryd.prog 32 #[.int .i64 p, .int .i64 c, .agg (dcells n ms), .int .i64 k] w fun e w' => ∃ g2 cap, e = .returned (.slice (some ⟨g2, 0, none⟩) M cap) ∧ TRd w' g2 M F ∧ Below w.heap.size w w') ∧
      (∀ w1, Below w.heap.size w w1 → Calls Tryd.prog 14 #[.int .i64 p, .int .i64 c, .agg (dcells n ms), .int .i64 k] w1 fun e w' => ∃ g1 g2 cs ns, e = .returned (.tuple #[.slice (some ⟨g2, 0, none⟩) M M, .int .i64 0]) ∧ PT w' w1.heap.size g1 g2 M cs ns ∧ TRd w' g2 M F ∧ Below w1.heap.size w1 w') := by
  have hcS := fun w => codeS_any p c n k ms hms hb hr w
  rw [h0] at hcS
  have hd : isD n ms = true := by
    cases hd : isD n ms with
    | true => rfl
    | false => unfold cCode at h0; rw [if_pos hd] at h0; cases h0
  have hh : primeB p = true ∧ (0 ≤ c ∧ c < p) ∧ cOk n k := by
    by_cases hh : primeB p = true ∧ (0 ≤ c ∧ c < p) ∧ cOk n k
    · exact hh
    · unfold cCode at h0; rw [if_neg (by rw [hd]; simp), if_neg hh] at h0; cases h0
  obtain ⟨hp, ⟨c0, c1⟩, ⟨n1, n6⟩, k0, kn, ke⟩ := hh
  obtain ⟨p2, p97⟩ := primeB_two hp
  obtain ⟨N, rfl⟩ : ∃ N : Nat, n = N := ⟨n.toNat, by omega⟩
  obtain ⟨K, rfl⟩ : ∃ K : Nat, k = K := ⟨k.toNat, by omega⟩
  have h1 : 1 ≤ N := by omega
  have h6 : N ≤ 6 := by omega
  have hkN : K ≤ N := by omega
  have hke : (N - K) % 2 = 0 := by omega
  obtain ⟨q1, q2⟩ := allH_len6 N K h1 h6 hkN hke
  obtain ⟨f, lp, hP⟩ := acts_ex N K h1 h6 hkN hke ms hms hb hd m
  have hL : ∀ w, Calls Tryd.prog 43 #[.int .i64 N, .int .i64 K] w fun e w' => ∃ g cap, e = .returned (.slice (some ⟨g, 0, none⟩) (allH N K).length cap) ∧ TMn w' w.heap.size (some ⟨g, 0, none⟩) (bsl (allH N K)) ∧ Below w.heap.size w w' := fun w => by
    have := hsS_ok N K h1 (by omega) w
    rw [tx3_all N K h1 (by omega) hkN hke] at this
    refine this.mono fun e w' h => ?_
    obtain ⟨g, cap, rfl, hI, hB⟩ := h
    rw [List.nil_append] at hI ⊢
    exact ⟨g, cap, by rw [stval, bsl_len], TMn.strs (Nat.le_refl _) hI, hB⟩
  have hnd : (bsl (allH N K)).Nodup := by
    unfold bsl
    refine List.Pairwise.map _ (fun a b hab h => hab ?_) (allH_nodup N K h1 h6 hkN hke)
    have := congrArg (fun x : ByteArray => x.data.toList) h
    simpa [bsv] using this
  have hne : ∀ x ∈ bsl (allH N K), x ≠ ⟨#[]⟩ := fun x hx h => by
    obtain ⟨i, hi, he⟩ := List.getElem_of_mem hx
    rw [bsl_len] at hi
    have e2 := bsl_getB _ _ hi
    rw [List.getD_eq_getElem?_getD, List.getElem?_eq_getElem (by rw [bsl_len]; exact hi), Option.getD_some, he, h] at e2
    have e3 := (allH_arc N K h1 (by omega) hkN hke i hi).1
    have := congrArg (fun x : ByteArray => x.data.toList.length) e2
    simp [bsv] at this
    rw [List.getD_eq_getElem?_getD, ← this] at e3
    omega
  have hE : ∀ i j, i < (allH N K).length → j < (allH N K).length → ((bsl (allH N K)).getD j ByteArray.empty = acT (bsl (allH N K)) (f i) ↔ cgd f i j = true) := fun i j hi hj => by
    exact acT_iff (bsl (allH N K)) hnd hne f i (fun j' h => by rw [bsl_len]; exact (hP i hi).2.1 j' h) j (by rw [bsl_len]; exact hj)
  refine ⟨p2, p97, (allH N K).length, fun i => gL p c (cgd f) (fun i _ => lp i) (allH N K).length i (allH N K).length, q2, fun i => gL_len _ _ _ _ _ _ _, fun i j hi hj => ?_, hcS, fun w => ?_, fun w1 hb1 => ?_⟩
  · show 0 ≤ (gL p c (cgd f) (fun i _ => lp i) (allH N K).length i (allH N K).length).getD j 0 ∧ _
    rw [gL_get _ _ _ _ _ _ _ _ hj, if_pos hj]
    unfold gV
    split
    · exact pw_range p c p2 _
    · omega
  · refine (cellS_any p c p2 p97 c0 c1 N K ms hms (allH N K).length q2 (bsl (allH N K)) (by rw [bsl_len]) f lp (fun i hi => (hP i hi).1) hE hL (fun i hi => (hP i hi).2.2.1) w).mono fun e w' h => ?_
    obtain ⟨v, vs, rfl, r2, r3, r4, r5, r6⟩ := h
    rcases r2.shape with ⟨s1, s2⟩ | ⟨g', cap', s1, s2, s3, s4⟩
    · rw [s2] at r3; simp at r3; omega
    · rw [r3] at s1
      subst s1
      exact ⟨g', cap', rfl, RwG.trd (fun i => gL_len _ _ _ _ _ _ _) r2 r3 r4, r6⟩
  · refine (cellI_any p c hp c0 c1 N K h1 h6 hkN hke ms hms (allH N K).length rfl q1 q2 f (fun i hi => (hP i hi).2.1) lp (fun i hi => (hP i hi).1) hnd hne w1 (fun w2 => by have := isI_any N ms hms hb w2; rw [hd] at this; exact this)
      (fun i hi w2 hb2 => (hP i hi).2.2.2 w2 ((hm.below hb1 hm.lt).below hb2 (hm.below hb1 hm.lt).lt))).mono fun e w' h => ?_
    obtain ⟨g1, g2, rfl, b1, b2, hT, hB⟩ := h
    obtain ⟨cs, ns, r1, r2⟩ := hT.pt b1 b2 (fun i => gL p c (cgd f) (fun i _ => lp i) (allH N K).length i (allH N K).length) (fun i => gL_len _ _ _ _ _ _ _) (fun i hi => by simp [rw', List.getD_eq_getElem?_getD, hi])
    exact ⟨g1, g2, cs, ns, rfl, r1, r2, hB⟩
theorem ctab_law (p c n k m : Int) (ms : List Int) (hms : ms.length = 16) (hb : Bytes ms) (w : World) (hm : Ml w m) (hr : -9223372036854775808 ≤ p ∧ p ≤ 9223372036854775807) (hk : -9223372036854775808 ≤ k ∧ k ≤ 9223372036854775807) :
    Calls Tryd.prog 4 #[.int .i64 p, .int .i64 c, .agg (dcells n ms), .int .i64 k] w fun e w' => e = .returned (.bool true) ∧ Below w.heap.size w w' := by
  by_cases h : cCode p c n k ms = 0
  · obtain ⟨p2, p97, M, F, hM, hF, hbd, hC, hS, hI⟩ := ctab_both p c n k m ms hms hb w hm hr h
    exact ctab_good p c n k ms hms M hM F hF w (fun w => ctabS_ok p c n k ms hms M F w hC hS) hI
  · exact ctab_bad p c n k ms hms (cCode p c n k ms) w (fun w => ctabS_bad p c n k ms hms _ h w (fun w => codeS_any p c n k ms hms hb hr w)) (fun w => ctabI_bad p c n k ms hms hb hk h w)
end Go.Proofs.YtopenojociafaaaDoor
namespace Go.Proofs.YtopenojociafaaaDoor
open Go.RowKit
set_option linter.unusedVariables false
set_option linter.unusedSimpArgs false
/-- The sum of the first k numbers on the diagonal. -/
def chV (p : Int) (F : Nat → List Int) : Nat → Int
  | 0 => 0
  | k + 1 => (chV p F k + (F k).getD k 0) % p
theorem chV_bd (p : Int) (p2 : 2 ≤ p) (F : Nat → List Int) (k : Nat) : 0 ≤ chV p F k ∧ chV p F k < p := by
  cases k with
  | zero => exact ⟨Int.le_refl _, by show (0 : Int) < p; omega⟩
  | succ k => exact ⟨Int.emod_nonneg _ (by omega), Int.emod_lt_of_pos _ (by omega)⟩
set_option maxRecDepth 100000 in
set_option maxHeartbeats 2000000 in
theorem chrS_ok (p c n k : Int) (p2 : 2 ≤ p) (p97 : p ≤ 97) (ms : List Int) (hms : ms.length = 16) (M : Nat) (hM : M ≤ 200) (F : Nat → List Int) (hF : ∀ i, (F i).length = M) (hbd : ∀ i j, i < M → j < M → 0 ≤ (F i).getD j 0 ∧ (F i).getD j 0 < p) (w : World)
    (hc0 : ∀ w, Calls Tryd.prog 31 #[.int .i64 p, .int .i64 c, .agg (dcells n ms), .int .i64 k] w fun e w' => e = .returned (.int .i64 0) ∧ Below w.heap.size w w')
    (hG0 : ∀ w, Calls Tryd.prog 32 #[.int .i64 p, .int .i64 c, .agg (dcells n ms), .int .i64 k] w fun e w' => ∃ g2 cap, e = .returned (.slice (some ⟨g2, 0, none⟩) M cap) ∧ TRd w' g2 M F ∧ Below w.heap.size w w') :
    Calls Tryd.prog 15 #[.int .i64 p, .int .i64 c, .agg (dcells n ms), .int .i64 k] w fun e w' => e = .returned (.tuple #[.int .i64 (chV p F M), .int .i64 0]) ∧ Below w.heap.size w w' := by
  have hl := Lib.hid hms
  have hc := Lib.hid hc0
  have hG := Lib.hid hG0
  have hb := Lib.hid hbd
  have hFl := Lib.hid hF
  have hcb := Lib.hid (fun i => chV_bd p p2 F i)
  clear hc0 hG0 hms hbd hF
  go_enter Tryd.func15, Tryd.ntmps15
  go_wp2_with (first
    | (refine wpList_load_row rfl 32 _ rfl _ rfl 32 _ (0, 0) _ (R1) Tryd.underlying32 rfl (row26 (d17 _ _ (hl.out))) ?_)
    | (refine wpList_load_row rfl 32 _ rfl _ rfl 32 _ (0, 0) _ (Own.new _ _ _) Tryd.underlying32 rfl (row26 (d17 _ _ (hl.out))) ?_)
    | (go_at_call 32; ((with_reducible refine (hG.out _).mono ?_); rintro e w2 ⟨g2, cap, rfl, hT, hB2⟩; have b2 := hBa.trans (hB2.mono hBa.size)))
    | (go_at_call 31; ((with_reducible refine (hc.out _).mono ?_); rintro e w1 ⟨rfl, hB0⟩; have R1 : Own w1 w.heap.size (dcells n ms) 32 := (Own.new w _ _).below hB0 (by simp); have hBa : Below w.heap.size w w1 := ((Below.refl _ w).alloc (Nat.le_refl _) _).trans (hB0.mono (by simp)))))
  have HT := Lib.hid hT
  clear hT
  go_loopw [12, 13] (fun s i wr => ∃ q : Nat, q ≤ M ∧ i = .int .i64 q ∧ s = .int .i64 (chV p F q) ∧ wr = w2) (fun _ i _ => ((M : Int) - intOf i).toNat)
  case atStart => exact ⟨0, Nat.zero_le _, rfl, rfl, rfl⟩
  case round =>
    obtain ⟨q, hq, rfl, rfl, rfl⟩ := hrel
    by_cases hlt : q < M
    · have kI : (q : Int) < (M : Int) := by omega
      obtain ⟨a, ca, d1, hr⟩ := HT.out q hlt
      obtain ⟨x1, x2⟩ := hb.out q q hlt hlt
      obtain ⟨y1, y2⟩ := hcb.out q
      cases a with
      | mk gb go gf =>
      have d2 := hr.cell _ rfl q (by rw [hFl.out]; exact hlt)
      have hst := Lib.hid (show chV p F (q + 1) = (chV p F q + (F q).getD q 0) % p from rfl)
      obtain ⟨x, hx⟩ : ∃ x, (F q).getD q 0 = x := ⟨_, rfl⟩
      obtain ⟨y, hy⟩ : ∃ y, chV p F q = y := ⟨_, rfl⟩
      rw [hx] at d2 x1 x2 hst
      rw [hy] at y1 y2 hst
      have hmod : (y + x).tmod p = (y + x) % p := Int.tmod_eq_emod_of_nonneg (by omega)
      rw [hy]
      clear hx hy hr
      go_wp2
      go_roundw
      case rel => exact ⟨q + 1, by omega, by go_num, by rw [hst.out], trivial⟩
      case measure => simp [intOf]; omega
    · have e : q = M := by omega
      subst e
      go_wp2
      go_ret2
      exact ⟨rfl, b2⟩
theorem chrS_bad (p c n k : Int) (ms : List Int) (hms : ms.length = 16) (C : Int) (hC : C ≠ 0) (w : World)
    (hc0 : ∀ w, Calls Tryd.prog 31 #[.int .i64 p, .int .i64 c, .agg (dcells n ms), .int .i64 k] w fun e w' => e = .returned (.int .i64 C) ∧ Below w.heap.size w w') :
    Calls Tryd.prog 15 #[.int .i64 p, .int .i64 c, .agg (dcells n ms), .int .i64 k] w fun e w' => e = .returned (.tuple #[.int .i64 0, .int .i64 C]) ∧ Below w.heap.size w w' := by
  have hl := Lib.hid hms
  have hc := Lib.hid hc0
  clear hc0 hms
  go_enter Tryd.func15, Tryd.ntmps15
  go_wp2_with (first
    | (refine wpList_load_row rfl 32 _ rfl _ rfl 32 _ (0, 0) _ (Own.new _ _ _) Tryd.underlying32 rfl (row26 (d17 _ _ (hl.out))) ?_)
    | (go_at_call 31; ((with_reducible refine (hc.out _).mono ?_); rintro e w1 ⟨rfl, hB0⟩; have hBa : Below w.heap.size w w1 := ((Below.refl _ w).alloc (Nat.le_refl _) _).trans (hB0.mono (by simp)))))
  go_ret2
  exact ⟨rfl, hBa⟩
set_option maxRecDepth 100000 in
set_option maxHeartbeats 2000000 in
theorem chrI_ok (p c n k : Int) (p2 : 2 ≤ p) (p97 : p ≤ 97) (ms : List Int) (hms : ms.length = 16) (M : Nat) (hM : M ≤ 200) (F : Nat → List Int) (hF : ∀ i, (F i).length = M) (hbd : ∀ i j, i < M → j < M → 0 ≤ (F i).getD j 0 ∧ (F i).getD j 0 < p) (w : World)
    (hG0 : ∀ w1, Below w.heap.size w w1 → Calls Tryd.prog 14 #[.int .i64 p, .int .i64 c, .agg (dcells n ms), .int .i64 k] w1 fun e w' => ∃ g1 g2 cs ns, e = .returned (.tuple #[.slice (some ⟨g2, 0, none⟩) M M, .int .i64 0]) ∧ PT w' w1.heap.size g1 g2 M cs ns ∧ TRd w' g2 M F ∧ Below w1.heap.size w1 w') :
    Calls Tryd.prog 16 #[.int .i64 p, .int .i64 c, .agg (dcells n ms), .int .i64 k] w fun e w' => e = .returned (.tuple #[.int .i64 (chV p F M), .int .i64 0]) ∧ Below w.heap.size w w' := by
  have hl := Lib.hid hms
  have hG := Lib.hid hG0
  have hb := Lib.hid hbd
  have hFl := Lib.hid hF
  have hcb := Lib.hid (fun i => chV_bd p p2 F i)
  have b0 : Below w.heap.size w (w.alloc (.cells (dcells n ms) 32)) := (Below.refl _ w).alloc (Nat.le_refl _) _
  clear hG0 hms hbd hF
  go_enter Tryd.func16, Tryd.ntmps16
  go_wp2_with (first
    | (refine wpList_load_row rfl 32 _ rfl _ rfl 32 _ (0, 0) _ (Own.new _ _ _) Tryd.underlying32 rfl (row26 (d17 _ _ (hl.out))) ?_)
    | (go_at_call 14; ((with_reducible refine (hG.out _ b0).mono ?_); rintro e w2 ⟨g1, g2, cs, ns, rfl, hP, hT, hB2⟩; have b2 := b0.trans (hB2.mono b0.size))))
  have HT := Lib.hid hT
  clear hT hP
  go_loopw [12, 25] (fun s i wr => ∃ q : Nat, q ≤ M ∧ i = .int .i64 q ∧ s = .int .i64 (chV p F q) ∧ wr = w2) (fun _ i _ => ((M : Int) - intOf i).toNat)
  case atStart => exact ⟨0, Nat.zero_le _, rfl, rfl, rfl⟩
  case round =>
    obtain ⟨q, hq, rfl, rfl, rfl⟩ := hrel
    by_cases hlt : q < M
    · have kI : (q : Int) < (M : Int) := by omega
      obtain ⟨a, ca, d1, hr⟩ := HT.out q hlt
      obtain ⟨x1, x2⟩ := hb.out q q hlt hlt
      obtain ⟨y1, y2⟩ := hcb.out q
      cases a with
      | mk gb go gf =>
      have d2 := hr.cell _ rfl q (by rw [hFl.out]; exact hlt)
      have hst := Lib.hid (show chV p F (q + 1) = (chV p F q + (F q).getD q 0) % p from rfl)
      obtain ⟨x, hx⟩ : ∃ x, (F q).getD q 0 = x := ⟨_, rfl⟩
      obtain ⟨y, hy⟩ : ∃ y, chV p F q = y := ⟨_, rfl⟩
      rw [hx] at d2 x1 x2 hst
      rw [hy] at y1 y2 hst
      have hrm := Lib.hid (fun w => remI_any p (y + x) w p2 p97 (by omega) (by omega))
      rw [← hst.out] at hrm
      rw [hy]
      clear hx hy hr
      go_wp2_with (first
        | (go_at_call 37; ((with_reducible refine (hrm.out _).mono ?_); rintro e w9 ⟨rfl, rfl⟩)))
      go_roundw
      case rel => exact ⟨q + 1, by omega, by go_num, rfl, trivial⟩
      case measure => simp [intOf]; omega
    · have e : q = M := by omega
      subst e
      go_wp2
      go_ret2
      exact ⟨rfl, b2⟩
theorem chrI_bad (p c n k : Int) (ms : List Int) (hms : ms.length = 16) (C : Int) (w : World)
    (hG0 : ∀ w, Calls Tryd.prog 14 #[.int .i64 p, .int .i64 c, .agg (dcells n ms), .int .i64 k] w fun e w' => e = .returned (.tuple #[.slice none 0 0, .int .i64 C]) ∧ Below w.heap.size w w') :
    Calls Tryd.prog 16 #[.int .i64 p, .int .i64 c, .agg (dcells n ms), .int .i64 k] w fun e w' => e = .returned (.tuple #[.int .i64 0, .int .i64 C]) ∧ Below w.heap.size w w' := by
  have hl := Lib.hid hms
  have hG := Lib.hid hG0
  have b0 : Below w.heap.size w (w.alloc (.cells (dcells n ms) 32)) := (Below.refl _ w).alloc (Nat.le_refl _) _
  clear hG0 hms
  go_enter Tryd.func16, Tryd.ntmps16
  go_wp2_with (first
    | (refine wpList_load_row rfl 32 _ rfl _ rfl 32 _ (0, 0) _ (Own.new _ _ _) Tryd.underlying32 rfl (row26 (d17 _ _ (hl.out))) ?_)
    | (go_at_call 14; ((with_reducible refine (hG.out _).mono ?_); rintro e w2 ⟨rfl, hB2⟩; have b2 := b0.trans (hB2.mono b0.size))))
  go_loopw [12, 25] (fun s i wr => i = .int .i64 0 ∧ s = .int .i64 0 ∧ wr = w2) (fun _ i _ => 0)
  case atStart => exact ⟨rfl, rfl, rfl⟩
  case round =>
    obtain ⟨rfl, rfl, rfl⟩ := hrel
    go_wp2
    go_ret2
    exact ⟨rfl, b2⟩
set_option maxRecDepth 100000 in
theorem chr_walk (p c n k x y : Int) (ms : List Int) (hms : ms.length = 16) (W : World)
    (hS0 : ∀ w, Calls Tryd.prog 15 #[.int .i64 p, .int .i64 c, .agg (dcells n ms), .int .i64 k] w fun e w' => e = .returned (.tuple #[.int .i64 x, .int .i64 y]) ∧ Below w.heap.size w w')
    (hI0 : ∀ w, Below W.heap.size W w → Calls Tryd.prog 16 #[.int .i64 p, .int .i64 c, .agg (dcells n ms), .int .i64 k] w fun e w' => e = .returned (.tuple #[.int .i64 x, .int .i64 y]) ∧ Below w.heap.size w w') :
    Calls Tryd.prog 5 #[.int .i64 p, .int .i64 c, .agg (dcells n ms), .int .i64 k] W fun e w' => e = .returned (.bool true) ∧ Below W.heap.size W w' := by
  have hl := Lib.hid hms
  have hS := Lib.hid hS0
  have hI := Lib.hid hI0
  have htd := Lib.hid (fun w => toD_any n ms hms w)
  clear hS0 hI0 hms
  go_enter Tryd.func5, Tryd.ntmps5
  go_wp2_with (first
    | (go_at_call 16; ((with_reducible refine (hI.out w3 b3).mono ?_); rintro e w4 ⟨rfl, hB4⟩))
    | (go_at_call 13; ((with_reducible refine (htd.out w2).mono ?_); rintro e w3 ⟨rfl, hB3⟩; have b3 := b2.trans (hB3.mono b2.size)))
    | (refine wpList_load_row rfl 30 _ rfl _ rfl 30 _ (0, 0) _ (R2) Tryd.underlying30 rfl (row50 (d17 _ _ (hl.out))) ?_)
    | (go_at_call 15; ((with_reducible refine (hS.out w1).mono ?_); rintro e w2 ⟨rfl, hB2⟩; have R2 := R1.below hB2 R1.lt; have b2 := b1.trans (hB2.mono b1.size)))
    | (go_at_call 13; ((with_reducible refine (htd.out _).mono ?_); rintro e w1 ⟨rfl, hB1⟩; have R1 : Own w1 W.heap.size (dcells n ms) 30 := (Own.new W _ _).below hB1 (by simp); have b1 : Below W.heap.size W w1 := ((Below.refl _ W).alloc (Nat.le_refl _) _).trans (hB1.mono (by simp))))
    | (refine wpList_load_row rfl 30 _ rfl _ rfl 30 _ (0, 0) _ (Own.new _ _ _) Tryd.underlying30 rfl (row50 (d17 _ _ (hl.out))) ?_))
  go_ret
  exact ⟨rfl, b3.trans (hB4.mono b3.size)⟩
theorem chr_law (p c n k m : Int) (ms : List Int) (hms : ms.length = 16) (hb : Bytes ms) (w : World) (hm : Ml w m) (hr : -9223372036854775808 ≤ p ∧ p ≤ 9223372036854775807) (hk : -9223372036854775808 ≤ k ∧ k ≤ 9223372036854775807) :
    Calls Tryd.prog 5 #[.int .i64 p, .int .i64 c, .agg (dcells n ms), .int .i64 k] w fun e w' => e = .returned (.bool true) ∧ Below w.heap.size w w' := by
  by_cases h : cCode p c n k ms = 0
  · obtain ⟨p2, p97, M, F, hM, hF, hbd, hC, hS, hI⟩ := ctab_both p c n k m ms hms hb w hm hr h
    exact chr_walk p c n k _ _ ms hms w (fun w => chrS_ok p c n k p2 p97 ms hms M hM F hF hbd w hC hS) (fun w1 h1 => chrI_ok p c n k p2 p97 ms hms M hM F hF hbd w1 (fun w2 h2 => hI w2 (h1.trans (h2.mono h1.size))))
  · exact chr_walk p c n k _ _ ms hms w (fun w => chrS_bad p c n k ms hms _ h w (fun w => codeS_any p c n k ms hms hb hr w)) (fun w1 _ => chrI_bad p c n k ms hms _ w1 (fun w => ctabI_bad p c n k ms hms hb hk h w))
end Go.Proofs.YtopenojociafaaaDoor
