/- CountByComponents: the program's. -/
import Derived.Test.YthofkmndgedkgaaTbi
import Derived.Test.YthofkmndgedkgaaCcm
import Derived.Test.YthofkmndgedkgaaMark
namespace Go.Proofs.Ythofkmndgedkgaa
open Go.RowKit
set_option linter.unusedVariables false
set_option linter.unusedSimpArgs false
theorem ccR_step (m : Nat) (LL : List (List UInt8)) (i : Nat) (c : List Int) (q z : Nat) (h : tbN m LL i q = z + 1) : ccR m LL i c (q + 1) = (ccR m LL i c q).set z ((ccR m LL i c q).getD z 0 + 1) := by
  rw [ccR, h, bump]; rfl
set_option maxRecDepth 100000 in
set_option maxHeartbeats 4000000 in
theorem cbI_ok (m : Nat) (h1 : 1 ≤ m) (h5 : m ≤ 5) (n : Nat) (hn : (allH (2 * m) 0).length = n) (h0 : 1 ≤ n) (w : World) :
    Calls Try.prog 25 #[.int .i64 m] w (ResI (ccT m (allH (2 * m) 0) n n) 0 w) := by
  have hlen := allH_len12 m h1 (by omega)
  rw [hn] at hlen
  have hA := Lib.hid (fun w => areI_t (m : Int) 5 w (by omega) (by omega))
  have hT := Lib.hid (fun w => tbI_ok m h1 (by omega) n hn h0 w)
  have hbd := tbN_bd m h1 h5
  rw [hn] at hbd
  have hbd := Lib.hid hbd
  have hbn := Lib.hid (fun k => ccT_bd m (allH (2 * m) 0) n (by omega) k)
  have hmk := makeI m (by omega)
  generalize allH (2 * m) 0 = LL at *
  clear hn
  go_enter Try.func25, Try.ntmps25
  go_wp2_with (first
    | (go_at_call 66; ((with_reducible refine (hA.out _).mono ?_); rintro e w0 ⟨rfl, rfl⟩))
    | (go_at_call 75; ((with_reducible refine (hT.out _).mono ?_); rintro e w2 ⟨g1, g2, cs, ns, hg1, hg2, rfl, hO1, hO2, hR, hnl, hF, hB2⟩)))
  clear hmk
  simp only [World.size_alloc] at hg1 hg2
  have b0 : Below w.heap.size w (w.alloc (.cells (icells (List.replicate m 0)) 2)) := (Below.refl _ _).alloc (Nat.le_refl _) _
  have hB0 : Below w.heap.size w w2 := b0.trans (hB2.mono b0.size)
  have hO0 : Own w2 w.heap.size (icells (ccT m LL n 0)) 2 := (Own.new w _ _).below hB2 (by simp)
  have HR := Lib.hid hR
  have HF := Lib.hid hF
  have HL := Lib.hid hnl
  clear hB2 hR hF hnl
  go_loopw [17] (fun i wr => ∃ k : Nat, k ≤ n ∧ i = .int .i64 k ∧ Own wr w.heap.size (icells (ccT m LL n k)) 2 ∧ Own wr g1 (icells ns) 2 ∧ Own wr g2 cs 35 ∧ Below w.heap.size w wr) (fun i _ => ((n : Int) - intOf i).toNat)
  case atStart => exact ⟨0, by omega, rfl, hO0, hO1, hO2, hB0⟩
  case round =>
    clear hO0 hO1 hO2 hB0
    obtain ⟨k, hk, rfl, hO0, hO1, hO2, hB⟩ := hrel
    by_cases hlt : k < n
    · have c1 : wr.cell? ⟨g2, k, none⟩ = some (.slice (some ⟨g1, k * n, none⟩) n n) := by rw [hO2.cell]; exact HR.out.2 k hlt
      have i1 : (k : Int) < (n : Int) := by omega
      have hkn := Nat.mul_le_mul_right n (show k + 1 ≤ n by omega)
      rw [Nat.succ_mul] at hkn
      have hFk := Lib.hid (fun q (hq : q < n) => HF.out k q hlt hq (Or.inl hlt))
      have hcb := Lib.hid (fun q => ccR_bd m LL k _ _ (hbn.out k) q)
      have hbk := Lib.hid (fun q (hq : q < n) => hbd.out k q hlt hq)
      have hst := Lib.hid (fun q z h => ccR_step m LL k (ccT m LL n k) q z h)
      have hcl := Lib.hid (fun q => (ccR_len m LL k (ccT m LL n k) q).trans (ccT_len m LL n k))
      have hnx := Lib.hid (show ccR m LL k (ccT m LL n k) n = ccT m LL n (k + 1) from rfl)
      obtain ⟨A, hA⟩ : ∃ A, k * n = A := ⟨_, rfl⟩
      rw [hA] at c1 hkn hFk
      clear hA
      obtain ⟨c0, hc0⟩ : ∃ c, ccT m LL n k = c := ⟨_, rfl⟩
      rw [hc0] at hO0 hst hcl hnx hcb
      clear hc0
      go_wp2
      go_loopw [23] (fun j wr => ∃ q : Nat, q ≤ n ∧ j = .int .i64 q ∧ Own wr w.heap.size (icells (ccR m LL k c0 q)) 2 ∧ Own wr g1 (icells ns) 2 ∧ Own wr g2 cs 35 ∧ Below w.heap.size w wr) (fun j _ => ((n : Int) - intOf j).toNat)
      case atStart => exact ⟨0, by omega, rfl, hO0, hO1, hO2, hB⟩
      case round =>
        clear hO0 hO1 hO2 hB c1
        obtain ⟨q, hq, rfl, hO0, hO1, hO2, hB⟩ := hrel
        by_cases hlt2 : q < n
        · have i2 : (q : Int) < (n : Int) := by omega
          have c2 : wr.cell? ⟨g1, A + q, none⟩ = some (.int .i64 (ns.getD (A + q) 0)) := by rw [hO1.cell, icells_get _ _ (by rw [HL.out]; omega)]
          rw [hFk.out q hlt2] at c2
          obtain ⟨b1, b2⟩ := hbk.out q hlt2
          have hs1 := hst.out q
          have hcl1 := hcl.out q
          have hcb1 := hcb.out q
          obtain ⟨x, hx⟩ : ∃ x, tbN m LL k q = x := ⟨_, rfl⟩
          rw [hx] at c2 b1 b2 hs1
          obtain ⟨z, rfl⟩ : ∃ z, x = z + 1 := ⟨x - 1, by omega⟩
          have hs1 := hs1 z rfl
          have cz := hO0.cell z
          rw [icells_get _ _ (by omega)] at cz
          have hyb := hcb1 z
          obtain ⟨y, hy⟩ : ∃ y, (ccR m LL k c0 q).getD z 0 = y := ⟨_, rfl⟩
          rw [hy] at cz hyb hs1
          obtain ⟨y0, y1⟩ := hyb
          have fz := hO0.free z
          have K0 := hO0.set z (.int .i64 (y + 1))
          rw [icells_set, ← hs1] at K0
          have K1 := Lib.hid K0
          have K2 := Lib.hid (hO1.other (a := ⟨w.heap.size, z, none⟩) (by show w.heap.size ≠ g1; omega) (.int .i64 (y + 1)))
          have K3 := Lib.hid (hO2.other (a := ⟨w.heap.size, z, none⟩) (by show w.heap.size ≠ g2; omega) (.int .i64 (y + 1)))
          have K4 := Lib.hid (hB.setCell (p := ⟨w.heap.size, z, none⟩) (Nat.le_refl _) (.int .i64 (y + 1)))
          have hzz : ((z + 1 : Nat) : Int) - 1 = (z : Int) := by omega
          have hzm : (z : Int) < (m : Int) := by omega
          have yb : y ≤ 100000 := by omega
          rw [show ((z + 1 : Nat) : Int) = (z : Int) + 1 by omega] at c2 hzz
          clear K0 hO0 hO1 hO2 hB hs1 hcl1 hcb1 hy hx b1 y1
          go_wp2
          go_roundw
          case rel => exact ⟨q + 1, by omega, by go_num, K1.out, K2.out, K3.out, K4.out⟩
          case measure => simp [intOf]; omega
        · have e : q = n := by omega
          subst e
          rw [hnx.out] at hO0
          go_wp2
          go_roundw
          case rel => exact ⟨k + 1, by omega, by go_num, hO0, hO1, hO2, hB⟩
          case measure => simp [intOf]; omega
    · have e : k = n := by omega
      subst e
      go_wp2
      go_ret2
      exact ⟨some ⟨w.heap.size, 0, none⟩, m, by rw [ccT_len]; rfl, Mn.new (Nat.le_refl _) hO0, hB⟩
theorem cbI_bad (m : Int) (h : m < 1 ∨ 5 < m) (w : World) : Calls Try.prog 25 #[.int .i64 m] w (ResI [] 2 w) := by
  have hA := Lib.hid (fun w => areI_f m 5 w h)
  clear h
  go_enter Try.func25, Try.ntmps25
  go_wp2_with (first
    | (go_at_call 66; ((with_reducible refine (hA.out _).mono ?_); rintro e w0 ⟨rfl, rfl⟩)))
  go_ret2
  exact ⟨none, 0, rfl, Mn.nil _ _, Below.refl _ _⟩
theorem cbS_bad (m : Int) (h : m < 1 ∨ 5 < m) (w : World) : Calls Try.prog 24 #[.int .i64 m] w (ResI [] 2 w) := by
  have hA := Lib.hid (fun w => inS_f m 1 5 w h)
  clear h
  go_enter Try.func24, Try.ntmps24
  go_wp2_with (first
    | (go_at_call 64; ((with_reducible refine (hA.out _).mono ?_); rintro e w0 ⟨rfl, rfl⟩)))
  go_ret2
  exact ⟨none, 0, rfl, Mn.nil _ _, Below.refl _ _⟩
end Go.Proofs.Ythofkmndgedkgaa
