/- The kinds that hold for all parts: the program's. -/
import Derived.Test.YthjgcakpimbcbaaPai
namespace Go.Proofs.Ythjgcakpimbcbaa
open Go.RowKit
set_option linter.unusedVariables false
set_option linter.unusedSimpArgs false
set_option maxRecDepth 100000 in
theorem smallC_any (x y : Int) (w : World) (hx : 0 ≤ x ∧ x ≤ 8) (hy : 0 ≤ y ∧ y ≤ 8) :
    Calls Try.prog 41 #[.agg (pcs x y)] w fun e w' => e = .returned (.bool (fSmall x y)) ∧ Below w.heap.size w w' := by
  have c0 := (Own.new w (pcs x y) 59).cell 0
  have c1 := (Own.new w (pcs x y) 59).cell 1
  rw [show (pcs x y)[0]? = some (.int .i64 x) from rfl] at c0
  rw [show (pcs x y)[1]? = some (.int .i64 y) from rfl] at c1
  obtain ⟨x0, x8⟩ := hx
  obtain ⟨y0, y8⟩ := hy
  go_enter Try.func41, Try.ntmps41
  go_wp2
  go_ret
  exact ⟨rfl, (Below.refl _ _).alloc (Nat.le_refl _) _⟩
set_option maxRecDepth 100000 in
theorem uniC_any (x y : Int) (w : World) (hx : 0 ≤ x ∧ x ≤ 8) (hy : 0 ≤ y ∧ y ≤ 8) :
    Calls Try.prog 45 #[.agg (pcs x y)] w fun e w' => e = .returned (.bool (fUni x y)) ∧ Below w.heap.size w w' := by
  have c0 := (Own.new w (pcs x y) 59).cell 0
  have c1 := (Own.new w (pcs x y) 59).cell 1
  rw [show (pcs x y)[0]? = some (.int .i64 x) from rfl] at c0
  rw [show (pcs x y)[1]? = some (.int .i64 y) from rfl] at c1
  obtain ⟨x0, x8⟩ := hx
  obtain ⟨y0, y8⟩ := hy
  go_enter Try.func45, Try.ntmps45
  go_wp2
  go_ret
  exact ⟨rfl, (Below.refl _ _).alloc (Nat.le_refl _) _⟩
set_option maxRecDepth 100000 in
theorem rookC_any (x y : Int) (w : World) (hx : 0 ≤ x ∧ x ≤ 8) (hy : 0 ≤ y ∧ y ≤ 8) :
    Calls Try.prog 42 #[.agg (pcs x y)] w fun e w' => e = .returned (.bool (fRook x y)) ∧ Below w.heap.size w w' := by
  have c0 := (Own.new w (pcs x y) 59).cell 0
  have c1 := (Own.new w (pcs x y) 59).cell 1
  rw [show (pcs x y)[0]? = some (.int .i64 x) from rfl] at c0
  rw [show (pcs x y)[1]? = some (.int .i64 y) from rfl] at c1
  obtain ⟨x0, x8⟩ := hx
  obtain ⟨y0, y8⟩ := hy
  by_cases a1 : x ≤ 1
  · go_enter Try.func42, Try.ntmps42
    go_wp2
    go_ret
    exact ⟨by first | rfl | (simp [fRook, a1]; done) | (unfold fRook; rw [decide_eq_true a1]; rfl), (Below.refl _ _).alloc (Nat.le_refl _) _⟩
  · go_enter Try.func42, Try.ntmps42
    go_wp2
    go_ret
    exact ⟨by first | rfl | (simp [fRook, a1]; done) | (unfold fRook; rw [decide_eq_false (show ¬ x ≤ 1 by omega)]; rfl), (Below.refl _ _).alloc (Nat.le_refl _) _⟩
set_option maxRecDepth 100000 in
theorem idealC_any (x y : Int) (w : World) (hx : 0 ≤ x ∧ x ≤ 8) (hy : 0 ≤ y ∧ y ≤ 8) :
    Calls Try.prog 43 #[.agg (pcs x y)] w fun e w' => e = .returned (.bool (fIdeal x y)) ∧ Below w.heap.size w w' := by
  have c0 := (Own.new w (pcs x y) 59).cell 0
  have c1 := (Own.new w (pcs x y) 59).cell 1
  rw [show (pcs x y)[0]? = some (.int .i64 x) from rfl] at c0
  rw [show (pcs x y)[1]? = some (.int .i64 y) from rfl] at c1
  obtain ⟨x0, x8⟩ := hx
  obtain ⟨y0, y8⟩ := hy
  have hg := Lib.hid (fun w => goThru_any x y w)
  have hO := Own.new w (pcs x y) 59
  have hf : (!decide (0 < x ∧ 0 < y)) = fIdeal x y := by unfold fIdeal; by_cases a : x = 0 <;> by_cases b : y = 0 <;> simp [a, b] <;> omega
  rw [← hf]
  generalize decide (0 < x ∧ 0 < y) = r at *
  clear hf
  go_enter Try.func43, Try.ntmps43
  go_wp2_with (first
    | (refine wpList_load_row rfl 59 _ rfl _ rfl 59 _ (0, 0) _ hO Try.underlying59 rfl (rowSd (c := pcs x y) rfl) ?_)
    | (go_at_call 44; ((with_reducible refine (hg.out _).mono ?_); rintro e w1 ⟨rfl, hB1⟩)))
  go_ret
  exact ⟨rfl, ((Below.refl _ _).alloc (Nat.le_refl _) _).trans (hB1.mono (by simp))⟩
set_option maxRecDepth 100000 in
set_option maxHeartbeats 4000000 in
theorem smallAll_any (ga gp m P : Nat) (U W Z : List Int) (w : World) (p8 : P ≤ 8) (hz : ∀ v, v < P → Z.getD (v * 2) 0 = U.getD v 0 ∧ Z.getD (v * 2 + 1) 0 = W.getD v 0) (hzl : Z.length = 2 * P) (hub : ∀ i, 0 ≤ U.getD i 0 ∧ U.getD i 0 ≤ 8) (hlb : ∀ i, 0 ≤ W.getD i 0 ∧ W.getD i 0 ≤ 8) (hO : Own w gp (icells Z) 59) :
    Calls Try.prog 39 #[.agg (shc ga gp m P), .func (.func 41) #[] #[]] w fun e w' => e = .returned (.bool (kd fSmall U W P)) ∧ Below w.heap.size w w' := by
  have hZ := Lib.hid hz
  have hzl' := Lib.hid hzl
  have hlt0 := hO.lt
  have hUB := Lib.hid hub
  have hLB := Lib.hid hlb
  have hB1 : Below w.heap.size w (w.alloc (.cells (shc ga gp m P) 50)) := (Below.refl _ _).alloc (Nat.le_refl _) _
  have HO := Lib.hid (hO.alloc (.cells (shc ga gp m P) 50))
  have HB := Lib.hid hB1
  have k1 := (Own.new w (shc ga gp m P) 50).cell 1
  rw [show (shc ga gp m P)[1]? = some (.slice (some ⟨gp, 0, none⟩) P P) from rfl] at k1
  have hkf := Lib.hid (kd_false fSmall U W)
  have hst := Lib.hid (fun k => show kd fSmall U W (k + 1) = (kd fSmall U W k && fSmall (U.getD k 0) (W.getD k 0)) from rfl)
  clear hz hzl hub hlb hO hB1
  go_enter Try.func39, Try.ntmps39
  go_wp2
  clear k1
  go_loopw [10] (fun i wr => ∃ k : Nat, k ≤ P ∧ i = .int .i64 k ∧ Hid (kd fSmall U W k = true) ∧ Own wr gp (icells Z) 59 ∧ Below w.heap.size w wr) (fun i _ => ((P : Int) - intOf i).toNat)
  case atStart => exact ⟨0, by omega, rfl, Lib.hid rfl, HO.out, HB.out⟩
  case round =>
    clear HO HB
    obtain ⟨k, hk, rfl, hK, hP, hB⟩ := hrel
    by_cases hlt : k < P
    · have i1 : (k : Int) < (P : Int) := by omega
      have hrg := sd_range hP k (by rw [hzl'.out]; omega)
      have hlp := hP.lt
      have hzk := hZ.out k hlt
      have hs := hst.out k
      rw [hK.out, Bool.true_and] at hs
      have hx := hUB.out k
      have hy := hLB.out k
      rw [hzk.1, hzk.2] at hrg
      clear hzk
      generalize U.getD k 0 = x at *
      generalize W.getD k 0 = y at *
      have HS := Lib.hid hs
      have hg := Lib.hid (fun w => smallC_any x y w hx hy)
      have hHP := Lib.hid hP
      have hHB := Lib.hid hB
      clear hs hP hB hx hy
      cases hf : fSmall x y with
      | true =>
        rw [hf] at hg HS
        go_wp2_with (first
          | (refine wpList_load_mid rfl 59 _ rfl gp (k * 2) (by first | rfl | simp) _ _ hrg Try.underlying59 rfl (rowSd (c := pcs x y) rfl) ?_)
          | (refine wpList_store_own rfl 59 _ _ rfl _ (pcs x y) rfl rfl 59 _ (Own.new wr (pcs 0 0) 59) (rowSd rfl) rfl (by simp [pcs, Value.oneCell']) ?_; intro w4 hO4 hN4)
          | (refine wpList_load_row rfl 59 _ rfl _ rfl 59 _ (0, 0) _ hO4 Try.underlying59 rfl (rowSd (c := pcs x y) rfl) ?_)
          | (go_at_call 41; ((with_reducible refine (hg.out _).mono ?_); rintro e w5 ⟨rfl, hB5⟩; have b4 : Below wr.heap.size wr w4 := ((Below.refl _ _).alloc (Nat.le_refl _) _).trans (hN4.below.mono (Nat.le_refl _)); have b5 : Below wr.heap.size wr w5 := b4.trans (hB5.mono b4.size); have hP5 := hHP.out.below b5 hlp; have hB6 := hHB.out.trans (b5.mono hHB.out.size); clear hB5 b4 b5 hN4)))
        go_roundw
        case rel => exact ⟨k + 1, by omega, by go_num, HS, hP5, hB6⟩
        case measure => simp [intOf]; omega
      | false =>
        rw [hf] at hg HS
        have hF := Lib.hid (show kd fSmall U W P = false by have := hkf.out (k + 1) (P - (k + 1)) HS.out; rwa [show k + 1 + (P - (k + 1)) = P by omega] at this)
        go_wp2_with (first
          | (refine wpList_load_mid rfl 59 _ rfl gp (k * 2) (by first | rfl | simp) _ _ hrg Try.underlying59 rfl (rowSd (c := pcs x y) rfl) ?_)
          | (refine wpList_store_own rfl 59 _ _ rfl _ (pcs x y) rfl rfl 59 _ (Own.new wr (pcs 0 0) 59) (rowSd rfl) rfl (by simp [pcs, Value.oneCell']) ?_; intro w4 hO4 hN4)
          | (refine wpList_load_row rfl 59 _ rfl _ rfl 59 _ (0, 0) _ hO4 Try.underlying59 rfl (rowSd (c := pcs x y) rfl) ?_)
          | (go_at_call 41; ((with_reducible refine (hg.out _).mono ?_); rintro e w5 ⟨rfl, hB5⟩; have b4 : Below wr.heap.size wr w4 := ((Below.refl _ _).alloc (Nat.le_refl _) _).trans (hN4.below.mono (Nat.le_refl _)); have b5 : Below wr.heap.size wr w5 := b4.trans (hB5.mono b4.size); have hB6 := hHB.out.trans (b5.mono hHB.out.size); clear hB5 b4 b5 hN4)))
        go_ret
        exact ⟨by rw [hF.out]; rfl, hB6⟩
    · obtain rfl : k = P := by omega
      go_wp2
      go_ret
      exact ⟨by rw [hK.out]; rfl, hB⟩
set_option maxRecDepth 100000 in
set_option maxHeartbeats 4000000 in
theorem rookAll_any (ga gp m P : Nat) (U W Z : List Int) (w : World) (p8 : P ≤ 8) (hz : ∀ v, v < P → Z.getD (v * 2) 0 = U.getD v 0 ∧ Z.getD (v * 2 + 1) 0 = W.getD v 0) (hzl : Z.length = 2 * P) (hub : ∀ i, 0 ≤ U.getD i 0 ∧ U.getD i 0 ≤ 8) (hlb : ∀ i, 0 ≤ W.getD i 0 ∧ W.getD i 0 ≤ 8) (hO : Own w gp (icells Z) 59) :
    Calls Try.prog 39 #[.agg (shc ga gp m P), .func (.func 42) #[] #[]] w fun e w' => e = .returned (.bool (kd fRook U W P)) ∧ Below w.heap.size w w' := by
  have hZ := Lib.hid hz
  have hzl' := Lib.hid hzl
  have hlt0 := hO.lt
  have hUB := Lib.hid hub
  have hLB := Lib.hid hlb
  have hB1 : Below w.heap.size w (w.alloc (.cells (shc ga gp m P) 50)) := (Below.refl _ _).alloc (Nat.le_refl _) _
  have HO := Lib.hid (hO.alloc (.cells (shc ga gp m P) 50))
  have HB := Lib.hid hB1
  have k1 := (Own.new w (shc ga gp m P) 50).cell 1
  rw [show (shc ga gp m P)[1]? = some (.slice (some ⟨gp, 0, none⟩) P P) from rfl] at k1
  have hkf := Lib.hid (kd_false fRook U W)
  have hst := Lib.hid (fun k => show kd fRook U W (k + 1) = (kd fRook U W k && fRook (U.getD k 0) (W.getD k 0)) from rfl)
  clear hz hzl hub hlb hO hB1
  go_enter Try.func39, Try.ntmps39
  go_wp2
  clear k1
  go_loopw [10] (fun i wr => ∃ k : Nat, k ≤ P ∧ i = .int .i64 k ∧ Hid (kd fRook U W k = true) ∧ Own wr gp (icells Z) 59 ∧ Below w.heap.size w wr) (fun i _ => ((P : Int) - intOf i).toNat)
  case atStart => exact ⟨0, by omega, rfl, Lib.hid rfl, HO.out, HB.out⟩
  case round =>
    clear HO HB
    obtain ⟨k, hk, rfl, hK, hP, hB⟩ := hrel
    by_cases hlt : k < P
    · have i1 : (k : Int) < (P : Int) := by omega
      have hrg := sd_range hP k (by rw [hzl'.out]; omega)
      have hlp := hP.lt
      have hzk := hZ.out k hlt
      have hs := hst.out k
      rw [hK.out, Bool.true_and] at hs
      have hx := hUB.out k
      have hy := hLB.out k
      rw [hzk.1, hzk.2] at hrg
      clear hzk
      generalize U.getD k 0 = x at *
      generalize W.getD k 0 = y at *
      have HS := Lib.hid hs
      have hg := Lib.hid (fun w => rookC_any x y w hx hy)
      have hHP := Lib.hid hP
      have hHB := Lib.hid hB
      clear hs hP hB hx hy
      cases hf : fRook x y with
      | true =>
        rw [hf] at hg HS
        go_wp2_with (first
          | (refine wpList_load_mid rfl 59 _ rfl gp (k * 2) (by first | rfl | simp) _ _ hrg Try.underlying59 rfl (rowSd (c := pcs x y) rfl) ?_)
          | (refine wpList_store_own rfl 59 _ _ rfl _ (pcs x y) rfl rfl 59 _ (Own.new wr (pcs 0 0) 59) (rowSd rfl) rfl (by simp [pcs, Value.oneCell']) ?_; intro w4 hO4 hN4)
          | (refine wpList_load_row rfl 59 _ rfl _ rfl 59 _ (0, 0) _ hO4 Try.underlying59 rfl (rowSd (c := pcs x y) rfl) ?_)
          | (go_at_call 42; ((with_reducible refine (hg.out _).mono ?_); rintro e w5 ⟨rfl, hB5⟩; have b4 : Below wr.heap.size wr w4 := ((Below.refl _ _).alloc (Nat.le_refl _) _).trans (hN4.below.mono (Nat.le_refl _)); have b5 : Below wr.heap.size wr w5 := b4.trans (hB5.mono b4.size); have hP5 := hHP.out.below b5 hlp; have hB6 := hHB.out.trans (b5.mono hHB.out.size); clear hB5 b4 b5 hN4)))
        go_roundw
        case rel => exact ⟨k + 1, by omega, by go_num, HS, hP5, hB6⟩
        case measure => simp [intOf]; omega
      | false =>
        rw [hf] at hg HS
        have hF := Lib.hid (show kd fRook U W P = false by have := hkf.out (k + 1) (P - (k + 1)) HS.out; rwa [show k + 1 + (P - (k + 1)) = P by omega] at this)
        go_wp2_with (first
          | (refine wpList_load_mid rfl 59 _ rfl gp (k * 2) (by first | rfl | simp) _ _ hrg Try.underlying59 rfl (rowSd (c := pcs x y) rfl) ?_)
          | (refine wpList_store_own rfl 59 _ _ rfl _ (pcs x y) rfl rfl 59 _ (Own.new wr (pcs 0 0) 59) (rowSd rfl) rfl (by simp [pcs, Value.oneCell']) ?_; intro w4 hO4 hN4)
          | (refine wpList_load_row rfl 59 _ rfl _ rfl 59 _ (0, 0) _ hO4 Try.underlying59 rfl (rowSd (c := pcs x y) rfl) ?_)
          | (go_at_call 42; ((with_reducible refine (hg.out _).mono ?_); rintro e w5 ⟨rfl, hB5⟩; have b4 : Below wr.heap.size wr w4 := ((Below.refl _ _).alloc (Nat.le_refl _) _).trans (hN4.below.mono (Nat.le_refl _)); have b5 : Below wr.heap.size wr w5 := b4.trans (hB5.mono b4.size); have hB6 := hHB.out.trans (b5.mono hHB.out.size); clear hB5 b4 b5 hN4)))
        go_ret
        exact ⟨by rw [hF.out]; rfl, hB6⟩
    · obtain rfl : k = P := by omega
      go_wp2
      go_ret
      exact ⟨by rw [hK.out]; rfl, hB⟩
set_option maxRecDepth 100000 in
theorem rookI_any (ga gp m P : Nat) (U W Z : List Int) (w : World) (p8 : P ≤ 8) (hz : ∀ v, v < P → Z.getD (v * 2) 0 = U.getD v 0 ∧ Z.getD (v * 2 + 1) 0 = W.getD v 0) (hzl : Z.length = 2 * P) (hub : ∀ i, 0 ≤ U.getD i 0 ∧ U.getD i 0 ≤ 8) (hlb : ∀ i, 0 ≤ W.getD i 0 ∧ W.getD i 0 ≤ 8) (hO : Own w gp (icells Z) 59) :
    Calls Try.prog 31 #[.agg (shc ga gp m P)] w fun e w' => e = .returned (.bool (kd fRook U W P)) ∧ Below w.heap.size w w' := by
  have h := Lib.hid (fun w hO => rookAll_any ga gp m P U W Z w p8 hz hzl hub hlb hO)
  have HO := Lib.hid (hO.alloc (.cells (shc ga gp m P) 50))
  generalize kd fRook U W P = r at *
  clear hz hzl hub hlb hO
  go_enter Try.func31, Try.ntmps31
  go_wp2_with (first
    | (refine wpList_load_row rfl 50 _ rfl _ rfl 50 _ (0, 0) _ (Own.new _ _ _) Try.underlying50 rfl (rowSh (c := shc ga gp m P) rfl) ?_)
    | (go_at_call 39; ((with_reducible refine (h.out _ HO.out).mono ?_); rintro e w1 ⟨rfl, hB1⟩)))
  go_ret
  exact ⟨rfl, ((Below.refl _ _).alloc (Nat.le_refl _) _).trans (hB1.mono (by simp))⟩
set_option maxRecDepth 100000 in
set_option maxHeartbeats 4000000 in
theorem idealAll_any (ga gp m P : Nat) (U W Z : List Int) (w : World) (p8 : P ≤ 8) (hz : ∀ v, v < P → Z.getD (v * 2) 0 = U.getD v 0 ∧ Z.getD (v * 2 + 1) 0 = W.getD v 0) (hzl : Z.length = 2 * P) (hub : ∀ i, 0 ≤ U.getD i 0 ∧ U.getD i 0 ≤ 8) (hlb : ∀ i, 0 ≤ W.getD i 0 ∧ W.getD i 0 ≤ 8) (hO : Own w gp (icells Z) 59) :
    Calls Try.prog 39 #[.agg (shc ga gp m P), .func (.func 43) #[] #[]] w fun e w' => e = .returned (.bool (kd fIdeal U W P)) ∧ Below w.heap.size w w' := by
  have hZ := Lib.hid hz
  have hzl' := Lib.hid hzl
  have hlt0 := hO.lt
  have hUB := Lib.hid hub
  have hLB := Lib.hid hlb
  have hB1 : Below w.heap.size w (w.alloc (.cells (shc ga gp m P) 50)) := (Below.refl _ _).alloc (Nat.le_refl _) _
  have HO := Lib.hid (hO.alloc (.cells (shc ga gp m P) 50))
  have HB := Lib.hid hB1
  have k1 := (Own.new w (shc ga gp m P) 50).cell 1
  rw [show (shc ga gp m P)[1]? = some (.slice (some ⟨gp, 0, none⟩) P P) from rfl] at k1
  have hkf := Lib.hid (kd_false fIdeal U W)
  have hst := Lib.hid (fun k => show kd fIdeal U W (k + 1) = (kd fIdeal U W k && fIdeal (U.getD k 0) (W.getD k 0)) from rfl)
  clear hz hzl hub hlb hO hB1
  go_enter Try.func39, Try.ntmps39
  go_wp2
  clear k1
  go_loopw [10] (fun i wr => ∃ k : Nat, k ≤ P ∧ i = .int .i64 k ∧ Hid (kd fIdeal U W k = true) ∧ Own wr gp (icells Z) 59 ∧ Below w.heap.size w wr) (fun i _ => ((P : Int) - intOf i).toNat)
  case atStart => exact ⟨0, by omega, rfl, Lib.hid rfl, HO.out, HB.out⟩
  case round =>
    clear HO HB
    obtain ⟨k, hk, rfl, hK, hP, hB⟩ := hrel
    by_cases hlt : k < P
    · have i1 : (k : Int) < (P : Int) := by omega
      have hrg := sd_range hP k (by rw [hzl'.out]; omega)
      have hlp := hP.lt
      have hzk := hZ.out k hlt
      have hs := hst.out k
      rw [hK.out, Bool.true_and] at hs
      have hx := hUB.out k
      have hy := hLB.out k
      rw [hzk.1, hzk.2] at hrg
      clear hzk
      generalize U.getD k 0 = x at *
      generalize W.getD k 0 = y at *
      have HS := Lib.hid hs
      have hg := Lib.hid (fun w => idealC_any x y w hx hy)
      have hHP := Lib.hid hP
      have hHB := Lib.hid hB
      clear hs hP hB hx hy
      cases hf : fIdeal x y with
      | true =>
        rw [hf] at hg HS
        go_wp2_with (first
          | (refine wpList_load_mid rfl 59 _ rfl gp (k * 2) (by first | rfl | simp) _ _ hrg Try.underlying59 rfl (rowSd (c := pcs x y) rfl) ?_)
          | (refine wpList_store_own rfl 59 _ _ rfl _ (pcs x y) rfl rfl 59 _ (Own.new wr (pcs 0 0) 59) (rowSd rfl) rfl (by simp [pcs, Value.oneCell']) ?_; intro w4 hO4 hN4)
          | (refine wpList_load_row rfl 59 _ rfl _ rfl 59 _ (0, 0) _ hO4 Try.underlying59 rfl (rowSd (c := pcs x y) rfl) ?_)
          | (go_at_call 43; ((with_reducible refine (hg.out _).mono ?_); rintro e w5 ⟨rfl, hB5⟩; have b4 : Below wr.heap.size wr w4 := ((Below.refl _ _).alloc (Nat.le_refl _) _).trans (hN4.below.mono (Nat.le_refl _)); have b5 : Below wr.heap.size wr w5 := b4.trans (hB5.mono b4.size); have hP5 := hHP.out.below b5 hlp; have hB6 := hHB.out.trans (b5.mono hHB.out.size); clear hB5 b4 b5 hN4)))
        go_roundw
        case rel => exact ⟨k + 1, by omega, by go_num, HS, hP5, hB6⟩
        case measure => simp [intOf]; omega
      | false =>
        rw [hf] at hg HS
        have hF := Lib.hid (show kd fIdeal U W P = false by have := hkf.out (k + 1) (P - (k + 1)) HS.out; rwa [show k + 1 + (P - (k + 1)) = P by omega] at this)
        go_wp2_with (first
          | (refine wpList_load_mid rfl 59 _ rfl gp (k * 2) (by first | rfl | simp) _ _ hrg Try.underlying59 rfl (rowSd (c := pcs x y) rfl) ?_)
          | (refine wpList_store_own rfl 59 _ _ rfl _ (pcs x y) rfl rfl 59 _ (Own.new wr (pcs 0 0) 59) (rowSd rfl) rfl (by simp [pcs, Value.oneCell']) ?_; intro w4 hO4 hN4)
          | (refine wpList_load_row rfl 59 _ rfl _ rfl 59 _ (0, 0) _ hO4 Try.underlying59 rfl (rowSd (c := pcs x y) rfl) ?_)
          | (go_at_call 43; ((with_reducible refine (hg.out _).mono ?_); rintro e w5 ⟨rfl, hB5⟩; have b4 : Below wr.heap.size wr w4 := ((Below.refl _ _).alloc (Nat.le_refl _) _).trans (hN4.below.mono (Nat.le_refl _)); have b5 : Below wr.heap.size wr w5 := b4.trans (hB5.mono b4.size); have hB6 := hHB.out.trans (b5.mono hHB.out.size); clear hB5 b4 b5 hN4)))
        go_ret
        exact ⟨by rw [hF.out]; rfl, hB6⟩
    · obtain rfl : k = P := by omega
      go_wp2
      go_ret
      exact ⟨by rw [hK.out]; rfl, hB⟩
set_option maxRecDepth 100000 in
theorem idealI_any (ga gp m P : Nat) (U W Z : List Int) (w : World) (p8 : P ≤ 8) (hz : ∀ v, v < P → Z.getD (v * 2) 0 = U.getD v 0 ∧ Z.getD (v * 2 + 1) 0 = W.getD v 0) (hzl : Z.length = 2 * P) (hub : ∀ i, 0 ≤ U.getD i 0 ∧ U.getD i 0 ≤ 8) (hlb : ∀ i, 0 ≤ W.getD i 0 ∧ W.getD i 0 ≤ 8) (hO : Own w gp (icells Z) 59) :
    Calls Try.prog 33 #[.agg (shc ga gp m P)] w fun e w' => e = .returned (.bool (kd fIdeal U W P)) ∧ Below w.heap.size w w' := by
  have h := Lib.hid (fun w hO => idealAll_any ga gp m P U W Z w p8 hz hzl hub hlb hO)
  have HO := Lib.hid (hO.alloc (.cells (shc ga gp m P) 50))
  generalize kd fIdeal U W P = r at *
  clear hz hzl hub hlb hO
  go_enter Try.func33, Try.ntmps33
  go_wp2_with (first
    | (refine wpList_load_row rfl 50 _ rfl _ rfl 50 _ (0, 0) _ (Own.new _ _ _) Try.underlying50 rfl (rowSh (c := shc ga gp m P) rfl) ?_)
    | (go_at_call 39; ((with_reducible refine (h.out _ HO.out).mono ?_); rintro e w1 ⟨rfl, hB1⟩)))
  go_ret
  exact ⟨rfl, ((Below.refl _ _).alloc (Nat.le_refl _) _).trans (hB1.mono (by simp))⟩
set_option maxRecDepth 100000 in
set_option maxHeartbeats 4000000 in
theorem uniAll_any (ga gp m P : Nat) (U W Z : List Int) (w : World) (p8 : P ≤ 8) (hz : ∀ v, v < P → Z.getD (v * 2) 0 = U.getD v 0 ∧ Z.getD (v * 2 + 1) 0 = W.getD v 0) (hzl : Z.length = 2 * P) (hub : ∀ i, 0 ≤ U.getD i 0 ∧ U.getD i 0 ≤ 8) (hlb : ∀ i, 0 ≤ W.getD i 0 ∧ W.getD i 0 ≤ 8) (hO : Own w gp (icells Z) 59) :
    Calls Try.prog 39 #[.agg (shc ga gp m P), .func (.func 45) #[] #[]] w fun e w' => e = .returned (.bool (kd fUni U W P)) ∧ Below w.heap.size w w' := by
  have hZ := Lib.hid hz
  have hzl' := Lib.hid hzl
  have hlt0 := hO.lt
  have hUB := Lib.hid hub
  have hLB := Lib.hid hlb
  have hB1 : Below w.heap.size w (w.alloc (.cells (shc ga gp m P) 50)) := (Below.refl _ _).alloc (Nat.le_refl _) _
  have HO := Lib.hid (hO.alloc (.cells (shc ga gp m P) 50))
  have HB := Lib.hid hB1
  have k1 := (Own.new w (shc ga gp m P) 50).cell 1
  rw [show (shc ga gp m P)[1]? = some (.slice (some ⟨gp, 0, none⟩) P P) from rfl] at k1
  have hkf := Lib.hid (kd_false fUni U W)
  have hst := Lib.hid (fun k => show kd fUni U W (k + 1) = (kd fUni U W k && fUni (U.getD k 0) (W.getD k 0)) from rfl)
  clear hz hzl hub hlb hO hB1
  go_enter Try.func39, Try.ntmps39
  go_wp2
  clear k1
  go_loopw [10] (fun i wr => ∃ k : Nat, k ≤ P ∧ i = .int .i64 k ∧ Hid (kd fUni U W k = true) ∧ Own wr gp (icells Z) 59 ∧ Below w.heap.size w wr) (fun i _ => ((P : Int) - intOf i).toNat)
  case atStart => exact ⟨0, by omega, rfl, Lib.hid rfl, HO.out, HB.out⟩
  case round =>
    clear HO HB
    obtain ⟨k, hk, rfl, hK, hP, hB⟩ := hrel
    by_cases hlt : k < P
    · have i1 : (k : Int) < (P : Int) := by omega
      have hrg := sd_range hP k (by rw [hzl'.out]; omega)
      have hlp := hP.lt
      have hzk := hZ.out k hlt
      have hs := hst.out k
      rw [hK.out, Bool.true_and] at hs
      have hx := hUB.out k
      have hy := hLB.out k
      rw [hzk.1, hzk.2] at hrg
      clear hzk
      generalize U.getD k 0 = x at *
      generalize W.getD k 0 = y at *
      have HS := Lib.hid hs
      have hg := Lib.hid (fun w => uniC_any x y w hx hy)
      have hHP := Lib.hid hP
      have hHB := Lib.hid hB
      clear hs hP hB hx hy
      cases hf : fUni x y with
      | true =>
        rw [hf] at hg HS
        go_wp2_with (first
          | (refine wpList_load_mid rfl 59 _ rfl gp (k * 2) (by first | rfl | simp) _ _ hrg Try.underlying59 rfl (rowSd (c := pcs x y) rfl) ?_)
          | (refine wpList_store_own rfl 59 _ _ rfl _ (pcs x y) rfl rfl 59 _ (Own.new wr (pcs 0 0) 59) (rowSd rfl) rfl (by simp [pcs, Value.oneCell']) ?_; intro w4 hO4 hN4)
          | (refine wpList_load_row rfl 59 _ rfl _ rfl 59 _ (0, 0) _ hO4 Try.underlying59 rfl (rowSd (c := pcs x y) rfl) ?_)
          | (go_at_call 45; ((with_reducible refine (hg.out _).mono ?_); rintro e w5 ⟨rfl, hB5⟩; have b4 : Below wr.heap.size wr w4 := ((Below.refl _ _).alloc (Nat.le_refl _) _).trans (hN4.below.mono (Nat.le_refl _)); have b5 : Below wr.heap.size wr w5 := b4.trans (hB5.mono b4.size); have hP5 := hHP.out.below b5 hlp; have hB6 := hHB.out.trans (b5.mono hHB.out.size); clear hB5 b4 b5 hN4)))
        go_roundw
        case rel => exact ⟨k + 1, by omega, by go_num, HS, hP5, hB6⟩
        case measure => simp [intOf]; omega
      | false =>
        rw [hf] at hg HS
        have hF := Lib.hid (show kd fUni U W P = false by have := hkf.out (k + 1) (P - (k + 1)) HS.out; rwa [show k + 1 + (P - (k + 1)) = P by omega] at this)
        go_wp2_with (first
          | (refine wpList_load_mid rfl 59 _ rfl gp (k * 2) (by first | rfl | simp) _ _ hrg Try.underlying59 rfl (rowSd (c := pcs x y) rfl) ?_)
          | (refine wpList_store_own rfl 59 _ _ rfl _ (pcs x y) rfl rfl 59 _ (Own.new wr (pcs 0 0) 59) (rowSd rfl) rfl (by simp [pcs, Value.oneCell']) ?_; intro w4 hO4 hN4)
          | (refine wpList_load_row rfl 59 _ rfl _ rfl 59 _ (0, 0) _ hO4 Try.underlying59 rfl (rowSd (c := pcs x y) rfl) ?_)
          | (go_at_call 45; ((with_reducible refine (hg.out _).mono ?_); rintro e w5 ⟨rfl, hB5⟩; have b4 : Below wr.heap.size wr w4 := ((Below.refl _ _).alloc (Nat.le_refl _) _).trans (hN4.below.mono (Nat.le_refl _)); have b5 : Below wr.heap.size wr w5 := b4.trans (hB5.mono b4.size); have hB6 := hHB.out.trans (b5.mono hHB.out.size); clear hB5 b4 b5 hN4)))
        go_ret
        exact ⟨by rw [hF.out]; rfl, hB6⟩
    · obtain rfl : k = P := by omega
      go_wp2
      go_ret
      exact ⟨by rw [hK.out]; rfl, hB⟩
set_option maxRecDepth 100000 in
theorem uniI_any (ga gp m P : Nat) (U W Z : List Int) (w : World) (p8 : P ≤ 8) (hz : ∀ v, v < P → Z.getD (v * 2) 0 = U.getD v 0 ∧ Z.getD (v * 2 + 1) 0 = W.getD v 0) (hzl : Z.length = 2 * P) (hub : ∀ i, 0 ≤ U.getD i 0 ∧ U.getD i 0 ≤ 8) (hlb : ∀ i, 0 ≤ W.getD i 0 ∧ W.getD i 0 ≤ 8) (hO : Own w gp (icells Z) 59) :
    Calls Try.prog 34 #[.agg (shc ga gp m P)] w fun e w' => e = .returned (.bool (kd fUni U W P)) ∧ Below w.heap.size w w' := by
  have h := Lib.hid (fun w hO => uniAll_any ga gp m P U W Z w p8 hz hzl hub hlb hO)
  have HO := Lib.hid (hO.alloc (.cells (shc ga gp m P) 50))
  generalize kd fUni U W P = r at *
  clear hz hzl hub hlb hO
  go_enter Try.func34, Try.ntmps34
  go_wp2_with (first
    | (refine wpList_load_row rfl 50 _ rfl _ rfl 50 _ (0, 0) _ (Own.new _ _ _) Try.underlying50 rfl (rowSh (c := shc ga gp m P) rfl) ?_)
    | (go_at_call 39; ((with_reducible refine (h.out _ HO.out).mono ?_); rintro e w1 ⟨rfl, hB1⟩)))
  go_ret
  exact ⟨rfl, ((Below.refl _ _).alloc (Nat.le_refl _) _).trans (hB1.mono (by simp))⟩
end Go.Proofs.Ythjgcakpimbcbaa
