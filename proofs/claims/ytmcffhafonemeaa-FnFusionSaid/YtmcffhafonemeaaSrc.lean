/- Draws: the source of numbers that follow from a code. -/
import Derived.Test.YtmcffhafonemeaaSl
import Derived.Test.YtmcffhafonemeaaInv
import Derived.IntWalk
import Derived.Deep.Cut
import Derived.RegionTactic
import Derived.StillTailTactics
namespace Go.Proofs.Ytmcffhafonemeaa
open Go.RowKit Go.Lib
set_option linter.unusedVariables false
set_option linter.unusedSimpArgs false
/-- n bytes that can be read. -/
structure RdB (w : World) (p : Option Addr) (n : Nat) : Prop where
  cell : ∀ a, p = some a → ∀ j, j < n → ∃ b : Int, 0 ≤ b ∧ b ≤ 255 ∧ w.cell? (a.add j) = some (.int .u8 b)
  nil : p = none → n = 0
theorem RdB.below {w w' : World} {p : Option Addr} {n : Nat} (h : RdB w p n) (hb : Below w.heap.size w w') : RdB w' p n := by
  refine ⟨fun a e j hj => ?_, h.nil⟩
  obtain ⟨b, h0, h1, hc⟩ := h.cell a e j hj
  refine ⟨b, h0, h1, ?_⟩
  have hlt : (a.add j).block < w.heap.size := by
    refine Decidable.byContradiction fun hn => ?_
    unfold World.cell? at hc
    rw [Array.getElem?_eq_none (by omega)] at hc
    simp at hc
  have : w'.cell? (a.add j) = w.cell? (a.add j) := by unfold World.cell?; rw [hb.block _ hlt]
  rw [this]; exact hc
/-- A source: where its code lies, how far it is read, its number. -/
structure Src (B : Nat) (w : World) (g : Nat) (pc : Option Addr) (n cp : Nat) : Prop where
  lo : B ≤ g
  at' : ∃ (k : Nat) (h : Int), k ≤ n ∧ Own w g #[.slice pc n cp, .int .i64 (k : Int), .int .u64 h] 59
theorem Src.lt {B : Nat} {w : World} {g : Nat} {pc : Option Addr} {n cp : Nat} (h : Src B w g pc n cp) : g < w.heap.size := by
  obtain ⟨_, k, x, _, ho⟩ := h; exact ho.lt
theorem Src.alloc {B : Nat} {w : World} {g : Nat} {pc : Option Addr} {n cp : Nat} (h : Src B w g pc n cp) (o : Obj) : Src B (w.alloc o) g pc n cp := by
  obtain ⟨l, k, x, hk, ho⟩ := h; exact ⟨l, k, x, hk, ho.alloc _⟩
theorem Src.below {B : Nat} {w w' : World} {g : Nat} {pc : Option Addr} {n cp : Nat} (h : Src B w g pc n cp) (hb : Below w.heap.size w w') : Src B w' g pc n cp := by
  obtain ⟨l, k, x, hk, ho⟩ := h; exact ⟨l, k, x, hk, ho.below hb ho.lt⟩
theorem Only.below' {B g : Nat} {w w' : World} (h : Only g w w') (hb : B ≤ g) : Below B w w' := h.below.mono hb
theorem and24 (y : Int) : 0 ≤ bits .and .u64 y 16777215 ∧ bits .and .u64 y 16777215 ≤ 16777215 := by
  have e : bits .and .u64 y 16777215 = IntKind.u64.wrap ((BitVec.ofInt 64 y &&& BitVec.ofInt 64 16777215).toNat : Int) := rfl
  have h : (BitVec.ofInt 64 y &&& BitVec.ofInt 64 16777215).toNat ≤ 16777215 := by
    rw [BitVec.toNat_and]; exact Nat.and_le_right
  rw [e, IntWalk.u64_in _ ⟨by omega, by omega⟩]; omega
set_option maxRecDepth 100000 in
set_option maxHeartbeats 4000000 in
theorem next_any (w0 : World) (pc : Option Addr) (n cp : Nat) (hR : RdB w0 pc n) (hn : n ≤ 4096) (g : Nat) (m : Int) (w : World) (hb : Below w0.heap.size w0 w) (hS : Src w0.heap.size w g pc n cp) :
    Calls Try.prog 27 #[.pointer (some ⟨g, 0, none⟩), .int .i64 m] w fun e w' => (∃ x : Int, e = .returned (.int .i64 x) ∧ 0 ≤ x ∧ (1 ≤ m → x < m) ∧ (m < 1 → x = 0)) ∧ Src w0.heap.size w' g pc n cp ∧ Only g w w' := by
  by_cases hm : m < 1
  · have hS' := Lib.hid hS
    clear hS hR hb
    go_enter Try.func27, Try.ntmps27
    go_wp2
    go_ret
    exact ⟨⟨0, rfl, by omega, by omega, fun _ => rfl⟩, hS'.out, Only.refl _ _⟩
  · obtain ⟨lo, k, h, hk, hO⟩ := hS
    have hRw := Lib.hid (fun w' (hb : Below w0.heap.size w0 w') => hR.below hb)
    have x2 : w.cell? ⟨g, 2, none⟩ = some (.int .u64 h) := hO.cell 2
    have f2 := hO.free 2
    obtain ⟨H1, hH1⟩ : ∃ H, IntKind.u64.wrap (h * 6364136223846793005) = H := ⟨_, rfl⟩
    obtain ⟨H2, hH2⟩ : ∃ H, IntKind.u64.wrap (H1 + 1442695040888963407) = H := ⟨_, rfl⟩
    have O2 : Own (w.setCell ⟨g, 2, none⟩ (.int .u64 H2)) g #[.slice pc n cp, .int .i64 (k : Int), .int .u64 H2] 59 := hO.set 2 _
    have N2 : Only g w (w.setCell ⟨g, 2, none⟩ (.int .u64 H2)) := Only.set g 2 w _
    have b2 : Below w0.heap.size w0 (w.setCell ⟨g, 2, none⟩ (.int .u64 H2)) := hb.trans (N2.below.mono lo)
    have O2' := Lib.hid O2
    have N2' := Lib.hid N2
    have b2' := Lib.hid b2
    clear hR hO hb O2 N2 b2
    go_enter Try.func27, Try.ntmps27
    go_upto_region 4 with fail
    have O3 := O2'.out
    have N3 := N2'.out
    have b3 := b2'.out
    clear O2' N2' b2' x2 f2 hH1 hH2
    generalize w.setCell ⟨g, 2, none⟩ (.int .u64 H2) = w3 at *
    have x2 : w3.cell? ⟨g, 2, none⟩ = some (.int .u64 H2) := O3.cell 2
    have aX := and24 (H2 / 8589934592)
    obtain ⟨X, hX⟩ : ∃ X, bits .and .u64 (H2 / 8589934592) 16777215 = X := ⟨_, rfl⟩
    rw [hX] at aX
    have wX : IntKind.i64.wrap X = X := IntWalk.i64_in _ (by omega)
    go_upto_region 5 with fail
    clear x2
    refine wp_region_still_lit (by kernel_rfl) (by kernel_rfl) ?_
    have O5 : Own { w3 with drawn := w3.drawn + 1 } g #[.slice pc n cp, .int .i64 (k : Int), .int .u64 H2] 59 := O3.drewN 1
    have N5 : Only g w { w3 with drawn := w3.drawn + 1 } := N3.drewN 1
    have b5 : Below w0.heap.size w0 { w3 with drawn := w3.drawn + 1 } := b3.drew
    clear O3 N3 b3
    generalize ({ w3 with drawn := w3.drawn + 1 } : World) = w5 at *
    have x0 : w5.cell? ⟨g, 0, none⟩ = some (.slice pc n cp) := O5.cell 0
    have x1 : w5.cell? ⟨g, 1, none⟩ = some (.int .i64 (k : Int)) := O5.cell 1
    iterate 10 still_step
    refine wpStill_nil ?_
    clear x0 x1
    have em : (m == 0) = false := by simp; omega
    by_cases hkn : k < n
    · have hki : (k : Int) < (n : Int) := by omega
      go_upto_region 6 with fail
      refine wp_region_still_lit (by kernel_rfl) (by kernel_rfl) ?_
      have O6 : Own { w5 with drawn := w5.drawn + 1 } g #[.slice pc n cp, .int .i64 (k : Int), .int .u64 H2] 59 := O5.drewN 1
      have N6 : Only g w { w5 with drawn := w5.drawn + 1 } := N5.drewN 1
      have b6 : Below w0.heap.size w0 { w5 with drawn := w5.drawn + 1 } := b5.drew
      clear O5 N5 b5
      generalize ({ w5 with drawn := w5.drawn + 1 } : World) = w6 at *
      obtain ⟨a, rfl⟩ : ∃ a, pc = some a := by
        cases pc with
        | none => exact absurd ((hRw.out w6 b6).nil rfl) (by omega)
        | some a => exact ⟨a, rfl⟩
      obtain ⟨b, hb0, hb1, hbc⟩ := (hRw.out w6 b6).cell a rfl k hkn
      have x0 : w6.cell? ⟨g, 0, none⟩ = some (.slice (some a) n cp) := O6.cell 0
      have x1 : w6.cell? ⟨g, 1, none⟩ = some (.int .i64 (k : Int)) := O6.cell 1
      have wb : IntKind.i64.wrap b = b := IntWalk.i64_in _ (by omega)
      have wXb : IntKind.i64.wrap (X + b) = X + b := IntWalk.i64_in _ (by omega)
      iterate 14 still_step
      refine wpStill_nil ?_
      clear hbc x0 wb wXb wX hX
      have f1 := O6.free 1
      obtain ⟨Y, hY⟩ : ∃ Y, X + b = Y := ⟨_, rfl⟩
      rw [hY]
      have hY0 : 0 ≤ Y := by omega
      have t0 : Y.tmod m = Y % m := Int.tmod_eq_emod_of_nonneg hY0
      have rY : Y % m ≤ Y := by
        have e := Int.mul_ediv_add_emod Y m
        have q := Int.mul_nonneg (show 0 ≤ m by omega) (Int.ediv_nonneg hY0 (show 0 ≤ m by omega))
        omega
      have r0 := Int.emod_nonneg Y (show m ≠ 0 by omega)
      have r1 := Int.emod_lt_of_pos Y (show 0 < m by omega)
      obtain ⟨Z, hZ⟩ : ∃ Z, Y % m = Z := ⟨_, rfl⟩
      rw [hZ] at t0 r0 r1 rY
      have wZ : IntKind.i64.wrap Z = Z := IntWalk.i64_in _ (by omega)
      have wk : IntKind.i64.wrap ((k : Int) + 1) = (k : Int) + 1 := IntWalk.i64_in _ (by omega)
      have wk2 : wrap64 ((k : Int) + 1) = (k : Int) + 1 := IntWalk.wrap64_in _ (by omega)
      have O7 : Own (w6.setCell ⟨g, 1, none⟩ (.int .i64 ((k : Int) + 1))) g #[.slice (some a) n cp, .int .i64 ((k : Int) + 1), .int .u64 H2] 59 := O6.set 1 _
      have hS7 := Lib.hid (show Src w0.heap.size (w6.setCell ⟨g, 1, none⟩ (.int .i64 ((k : Int) + 1))) g (some a) n cp from ⟨lo, k + 1, H2, hkn, (by rw [show ((k + 1 : Nat) : Int) = (k : Int) + 1 from by simp]; exact O7)⟩)
      have hN7 := Lib.hid (N6.trans (Only.set g 1 w6 (.int .i64 ((k : Int) + 1))))
      clear O6 N6 b6 O7 hY hZ hRw
      go_wp2
      go_ret
      exact ⟨⟨Z, rfl, r0, by first | exact r1 | omega⟩, hS7.out, hN7.out⟩
    · have hki : ¬ (k : Int) < (n : Int) := by omega
      have t0 : X.tmod m = X % m := Int.tmod_eq_emod_of_nonneg aX.1
      have rY : X % m ≤ X := by
        have e := Int.mul_ediv_add_emod X m
        have q := Int.mul_nonneg (show 0 ≤ m by omega) (Int.ediv_nonneg aX.1 (show 0 ≤ m by omega))
        omega
      have r0 := Int.emod_nonneg X (show m ≠ 0 by omega)
      have r1 := Int.emod_lt_of_pos X (show 0 < m by omega)
      obtain ⟨Z, hZ⟩ : ∃ Z, X % m = Z := ⟨_, rfl⟩
      rw [hZ] at t0 r0 r1 rY
      have wZ : IntKind.i64.wrap Z = Z := IntWalk.i64_in _ (by omega)
      have hS7 := Lib.hid (show Src w0.heap.size w5 g pc n cp from ⟨lo, k, H2, hk, O5⟩)
      have hN7 := Lib.hid N5
      clear O5 N5 b5 hZ hRw
      go_wp2
      go_ret
      exact ⟨⟨Z, rfl, r0, by first | exact r1 | omega⟩, hS7.out, hN7.out⟩
set_option maxRecDepth 100000 in
set_option maxHeartbeats 4000000 in
theorem pick_any (w0 : World) (pc : Option Addr) (n cp : Nat) (hR : RdB w0 pc n) (hn : n ≤ 4096) (g gl c : Nat) (xs : List Int) (hx : 1 ≤ xs.length) (hx2 : xs.length ≤ 100) (w : World) (hb : Below w0.heap.size w0 w) (hS : Src w0.heap.size w g pc n cp) (hL : Own w gl (icells xs) 2) (hgl : gl ≠ g) :
    Calls Try.prog 40 #[.pointer (some ⟨g, 0, none⟩), .slice (some ⟨gl, 0, none⟩) xs.length c] w fun e w' => (∃ x : Int, e = .returned (.int .i64 x) ∧ x ∈ xs) ∧ Src w0.heap.size w' g pc n cp ∧ Only g w w' := by
  have hnx := Lib.hid (next_any w0 pc n cp hR hn g xs.length w hb hS)
  have hy := Lib.hid (fun (k : Nat) (h : k < xs.length) (w1 : World) (hN1 : Only g w w1) => show ∃ v, v ∈ xs ∧ w1.cell? ⟨gl, k, none⟩ = some (.int .i64 v) from ⟨xs.getD k 0, by rw [List.getD_eq_getElem?_getD, List.getElem?_eq_getElem h]; exact List.getElem_mem _, ((hL.only hN1 hgl).cell k).trans (icells_get xs k h)⟩)
  obtain ⟨m, hm⟩ : ∃ m, xs.length = m := ⟨_, rfl⟩
  rw [hm] at hnx hy hx hx2 ⊢
  clear hR hb hS hL hm
  go_enter Try.func40, Try.ntmps40
  go_wp2_with (first
    | (go_at_call 27; ((with_reducible refine hnx.out.mono ?_); rintro e w1 ⟨⟨x, rfl, x0, x1, x2⟩, hS1, hN1⟩; obtain ⟨k, rfl⟩ : ∃ k : Nat, x = (k : Int) := ⟨x.toNat, by omega⟩; have kx : (k : Int) < (m : Int) := x1 (by omega); have km : k < m := (by omega); obtain ⟨v, hvm, y1⟩ := hy.out k km w1 hN1; have hvm' := Lib.hid hvm; have hS1' := Lib.hid hS1; have hN1' := Lib.hid hN1; clear x1 x2 x0 hvm hS1 hN1)))
  go_ret
  exact ⟨⟨_, rfl, hvm'.out⟩, hS1'.out, hN1'.out⟩
end Go.Proofs.Ytmcffhafonemeaa
