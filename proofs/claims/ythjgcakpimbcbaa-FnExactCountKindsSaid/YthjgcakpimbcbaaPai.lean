/- Something holds for all parts: the program's. -/
import Derived.Test.YthjgcakpimbcbaaPks
import Derived.Test.YthjgcakpimbcbaaThq
namespace Go.Proofs.Ythjgcakpimbcbaa
open Go.RowKit
set_option linter.unusedVariables false
theorem kd_false (f : Int → Int → Bool) (U W : List Int) (k j : Nat) (h : kd f U W k = false) : kd f U W (k + j) = false := by
  induction j with
  | zero => exact h
  | succ j ih => show (kd f U W (k + j) && _) = false; rw [ih]; rfl
set_option maxRecDepth 100000 in
theorem pairC_any (x y : Int) (w : World) (hx : 0 ≤ x ∧ x ≤ 8) (hy : 0 ≤ y ∧ y ≤ 8) :
    Calls Try.prog 40 #[.agg (pcs x y)] w fun e w' => e = .returned (.bool (fPair x y)) ∧ Below w.heap.size w w' := by
  have c0 := (Own.new w (pcs x y) 59).cell 0
  have c1 := (Own.new w (pcs x y) 59).cell 1
  rw [show (pcs x y)[0]? = some (.int .i64 x) from rfl] at c0
  rw [show (pcs x y)[1]? = some (.int .i64 y) from rfl] at c1
  obtain ⟨x0, x8⟩ := hx
  obtain ⟨y0, y8⟩ := hy
  go_enter Try.func40, Try.ntmps40
  go_wp2
  go_ret
  exact ⟨rfl, (Below.refl _ _).alloc (Nat.le_refl _) _⟩
set_option maxRecDepth 100000 in
set_option maxHeartbeats 4000000 in
theorem pairAll_any (ga gp m P : Nat) (U W Z : List Int) (w : World) (p8 : P ≤ 8) (hz : ∀ v, v < P → Z.getD (v * 2) 0 = U.getD v 0 ∧ Z.getD (v * 2 + 1) 0 = W.getD v 0) (hzl : Z.length = 2 * P) (hub : ∀ i, 0 ≤ U.getD i 0 ∧ U.getD i 0 ≤ 8) (hlb : ∀ i, 0 ≤ W.getD i 0 ∧ W.getD i 0 ≤ 8) (hO : Own w gp (icells Z) 59) :
    Calls Try.prog 39 #[.agg (shc ga gp m P), .func (.func 40) #[] #[]] w fun e w' => e = .returned (.bool (kd fPair U W P)) ∧ Below w.heap.size w w' := by
  have hZ := Lib.hid hz
  have hzl' := Lib.hid hzl
  have hlt0 := hO.lt
  have hUB := Lib.hid hub
  have hLB := Lib.hid hlb
  have hB1 : Below w.heap.size w (w.alloc (.cells (shc ga gp m P) 50)) := (Below.refl _ _).alloc (Nat.le_refl _) _
  have HO := Lib.hid (hO.alloc (.cells (shc ga gp m P) 50))
  have HB := Lib.hid hB1
  have k1 := (Own.new w (shc ga gp m P) 50).cell 1
  rw [show (shc ga gp m P)[1]? = some (.slice (some ⟨gp, 0, none⟩) P P) from rfl] at k1
  have hkf := Lib.hid (kd_false fPair U W)
  have hst := Lib.hid (fun k => show kd fPair U W (k + 1) = (kd fPair U W k && fPair (U.getD k 0) (W.getD k 0)) from rfl)
  clear hz hzl hub hlb hO hB1
  go_enter Try.func39, Try.ntmps39
  go_wp2
  clear k1
  go_loopw [10] (fun i wr => ∃ k : Nat, k ≤ P ∧ i = .int .i64 k ∧ Hid (kd fPair U W k = true) ∧ Own wr gp (icells Z) 59 ∧ Below w.heap.size w wr) (fun i _ => ((P : Int) - intOf i).toNat)
  case atStart => exact ⟨0, by omega, rfl, Lib.hid rfl, HO.out, HB.out⟩
  case round =>
    clear HO HB
    obtain ⟨k, hk, rfl, hK, hP, hB⟩ := hrel
    by_cases hlt : k < P
    · have i1 : (k : Int) < (P : Int) := by omega
      have hrg := sd_range hP k (by rw [hzl'.out]; omega)
      have hlp := hP.lt
      have hzk := hZ.out k hlt
      have hs := hst.out k
      rw [hK.out, Bool.true_and] at hs
      have hx := hUB.out k
      have hy := hLB.out k
      rw [hzk.1, hzk.2] at hrg
      clear hzk
      generalize U.getD k 0 = x at *
      generalize W.getD k 0 = y at *
      have HS := Lib.hid hs
      have hg := Lib.hid (fun w => pairC_any x y w hx hy)
      have hHP := Lib.hid hP
      have hHB := Lib.hid hB
      clear hs hP hB hx hy
      cases hf : fPair x y with
      | true =>
        rw [hf] at hg HS
        go_wp2_with (first
          | (refine wpList_load_mid rfl 59 _ rfl gp (k * 2) (by first | rfl | simp) _ _ hrg Try.underlying59 rfl (rowSd (c := pcs x y) rfl) ?_)
          | (refine wpList_store_own rfl 59 _ _ rfl _ (pcs x y) rfl rfl 59 _ (Own.new wr (pcs 0 0) 59) (rowSd rfl) rfl (by simp [pcs, Value.oneCell']) ?_; intro w4 hO4 hN4)
          | (refine wpList_load_row rfl 59 _ rfl _ rfl 59 _ (0, 0) _ hO4 Try.underlying59 rfl (rowSd (c := pcs x y) rfl) ?_)
          | (go_at_call 40; ((with_reducible refine (hg.out _).mono ?_); rintro e w5 ⟨rfl, hB5⟩; have b4 : Below wr.heap.size wr w4 := ((Below.refl _ _).alloc (Nat.le_refl _) _).trans (hN4.below.mono (Nat.le_refl _)); have b5 : Below wr.heap.size wr w5 := b4.trans (hB5.mono b4.size); have hP5 := hHP.out.below b5 hlp; have hB6 := hHB.out.trans (b5.mono hHB.out.size); clear hB5 b4 b5 hN4)))
        go_roundw
        case rel => exact ⟨k + 1, by omega, by go_num, HS, hP5, hB6⟩
        case measure => simp [intOf]; omega
      | false =>
        rw [hf] at hg HS
        have hF := Lib.hid (show kd fPair U W P = false by have := hkf.out (k + 1) (P - (k + 1)) HS.out; rwa [show k + 1 + (P - (k + 1)) = P by omega] at this)
        go_wp2_with (first
          | (refine wpList_load_mid rfl 59 _ rfl gp (k * 2) (by first | rfl | simp) _ _ hrg Try.underlying59 rfl (rowSd (c := pcs x y) rfl) ?_)
          | (refine wpList_store_own rfl 59 _ _ rfl _ (pcs x y) rfl rfl 59 _ (Own.new wr (pcs 0 0) 59) (rowSd rfl) rfl (by simp [pcs, Value.oneCell']) ?_; intro w4 hO4 hN4)
          | (refine wpList_load_row rfl 59 _ rfl _ rfl 59 _ (0, 0) _ hO4 Try.underlying59 rfl (rowSd (c := pcs x y) rfl) ?_)
          | (go_at_call 40; ((with_reducible refine (hg.out _).mono ?_); rintro e w5 ⟨rfl, hB5⟩; have b4 : Below wr.heap.size wr w4 := ((Below.refl _ _).alloc (Nat.le_refl _) _).trans (hN4.below.mono (Nat.le_refl _)); have b5 : Below wr.heap.size wr w5 := b4.trans (hB5.mono b4.size); have hB6 := hHB.out.trans (b5.mono hHB.out.size); clear hB5 b4 b5 hN4)))
        go_ret
        exact ⟨by rw [hF.out]; rfl, hB6⟩
    · obtain rfl : k = P := by omega
      go_wp2
      go_ret
      exact ⟨by rw [hK.out]; rfl, hB⟩
set_option maxRecDepth 100000 in
theorem pairI_any (ga gp m P : Nat) (U W Z : List Int) (w : World) (p8 : P ≤ 8) (hz : ∀ v, v < P → Z.getD (v * 2) 0 = U.getD v 0 ∧ Z.getD (v * 2 + 1) 0 = W.getD v 0) (hzl : Z.length = 2 * P) (hub : ∀ i, 0 ≤ U.getD i 0 ∧ U.getD i 0 ≤ 8) (hlb : ∀ i, 0 ≤ W.getD i 0 ∧ W.getD i 0 ≤ 8) (hO : Own w gp (icells Z) 59) :
    Calls Try.prog 29 #[.agg (shc ga gp m P)] w fun e w' => e = .returned (.bool (kd fPair U W P)) ∧ Below w.heap.size w w' := by
  have h := Lib.hid (fun w hO => pairAll_any ga gp m P U W Z w p8 hz hzl hub hlb hO)
  have HO := Lib.hid (hO.alloc (.cells (shc ga gp m P) 50))
  generalize kd fPair U W P = r at *
  clear hz hzl hub hlb hO
  go_enter Try.func29, Try.ntmps29
  go_wp2_with (first
    | (refine wpList_load_row rfl 50 _ rfl _ rfl 50 _ (0, 0) _ (Own.new _ _ _) Try.underlying50 rfl (rowSh (c := shc ga gp m P) rfl) ?_)
    | (go_at_call 39; ((with_reducible refine (h.out _ HO.out).mono ?_); rintro e w1 ⟨rfl, hB1⟩)))
  go_ret
  exact ⟨rfl, ((Below.refl _ _).alloc (Nat.le_refl _) _).trans (hB1.mono (by simp))⟩
end Go.Proofs.Ythjgcakpimbcbaa
