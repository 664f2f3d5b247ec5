/- All partitions of a size, in order: how both list them. -/
import Derived.Test.YthjgcakpimbcbaaRwp
import Derived.Test.YthjgcakpimbcbaaSpecA
namespace Go.Proofs.Ythjgcakpimbcbaa
open Go.RowKit Go.Lib
set_option linter.unusedVariables false
set_option linter.unusedSimpArgs false
/-- The partitions with the numbers of ms ahead of the point k; f points are left, nx is the least number that is not taken. -/
def pf : Nat → Nat → Nat → List Int → List (List Int)
  | 0, _, _, ms => [ms]
  | f + 1, k, nx, ms => (List.range (nx + 1)).flatMap (fun p => pf f (k + 1) (max nx (p + 1)) (ms.set k (p : Int)))
def pfT (f k nx : Nat) (ms : List Int) (p : Nat) : List (List Int) := (List.range p).flatMap (fun p => pf f (k + 1) (max nx (p + 1)) (ms.set k (p : Int)))
theorem pfT_zero (f k nx : Nat) (ms : List Int) : pfT f k nx ms 0 = [] := rfl
theorem pfT_succ (f k nx : Nat) (ms : List Int) (p : Nat) : pfT f k nx ms (p + 1) = pfT f k nx ms p ++ pf f (k + 1) (max nx (p + 1)) (ms.set k (p : Int)) := by
  unfold pfT; rw [List.range_succ, List.flatMap_append]; simp
theorem pf_succ (f k nx : Nat) (ms : List Int) : pf (f + 1) k nx ms = pfT f k nx ms (nx + 1) := rfl
/-- How many there are. -/
def cP : Nat → Nat → Nat
  | 0, _ => 1
  | f + 1, nx => nx * cP f nx + cP f (nx + 1)
theorem pf_len (f : Nat) : ∀ (k nx : Nat) (ms : List Int), (pf f k nx ms).length = cP f nx := by
  induction f with
  | zero => intro k nx ms; rfl
  | succ f ih =>
    intro k nx ms
    have h : ∀ p, p ≤ nx → (pfT f k nx ms p).length = p * cP f nx := by
      intro p
      induction p with
      | zero => intro _; simp [pfT_zero]
      | succ p ihp =>
        intro hp
        rw [pfT_succ, List.length_append, ihp (by omega), ih, show max nx (p + 1) = nx by omega, Nat.succ_mul]
    rw [pf_succ, pfT_succ, List.length_append, h nx (Nat.le_refl _), ih, show max nx (nx + 1) = nx + 1 by omega]
    rfl
theorem pfT_len (f k nx : Nat) (ms : List Int) (p : Nat) (hp : p ≤ nx) : (pfT f k nx ms p).length = p * cP f nx := by
  induction p with
  | zero => simp [pfT_zero]
  | succ p ihp => rw [pfT_succ, List.length_append, ihp (by omega), pf_len, show max nx (p + 1) = nx by omega, Nat.succ_mul]
/-- There is room for the next ones. -/
theorem pf_room (f nx p : Nat) (hp : p ≤ nx) : p * cP f nx + cP f (max nx (p + 1)) ≤ cP (f + 1) nx := by
  by_cases h : p = nx
  · subst h; rw [show max p (p + 1) = p + 1 by omega]; exact Nat.le_refl _
  · rw [show max nx (p + 1) = nx by omega, ← Nat.succ_mul]
    exact Nat.le_trans (Nat.mul_le_mul_right _ (by omega)) (Nat.le_add_right _ _)
def prw (n : Int) (L : List (List Int)) : List PtR := L.map (fun ms => (n, ms))
theorem prw_app (n : Int) (A B : List (List Int)) : prw n (A ++ B) = prw n A ++ prw n B := by simp [prw]
theorem prw_len (n : Int) (A : List (List Int)) : (prw n A).length = A.length := by simp [prw]
theorem gen_part {P : Program} {c : Code} {Q : Exit → Act → World → Prop} {a : Act} {W : World} (S : World → Prop) (h : S W) (k : ∀ x, S x → c.wp P Q a x) : c.wp P Q a W := k W h
def PafPost (base : Nat) (v : Value) (ds : List PtR) (n : Int) (A : List (List Int)) (w : World) (e : Ending) (w' : World) : Prop :=
  ∃ v', e = .returned v' ∧ RowQ w' base v' (ds ++ prw n A) ∧ Fram v w v' w' ∧ Below base w w'
set_option maxRecDepth 100000 in
set_option maxHeartbeats 4000000 in
theorem fillS_any (n : Nat) (h1 : 1 ≤ n) (h4 : n ≤ 4) (m : Nat) : ∀ (k nx base : Nat) (ms : List Int) (v : Value) (ds : List PtR) (w : World),
    k + m = 2 * n → nx ≤ k → ms.length = 8 → RowQ w base v ds → base ≤ w.heap.size → ds.length + cP m nx ≤ 2000000 →
    Calls Try.prog 22 #[v, .agg (dcells n ms), .int .i64 k, .int .u8 nx] w (PafPost base v ds n (pf m k nx ms) w) := by
  induction m with
  | zero =>
    intro k nx base ms v ds w hk hnx hms hR hb hlen
    have hl := Lib.hid hms
    have hmk := Lib.hid (fun w => mksQ n ms hms w)
    have hdl : ds.length < 2097152 := by omega
    have hpost := Lib.hid (show ∀ v' w', RowQ w' base v' (ds ++ [((n : Int), ms)]) → Fram v w v' w' → Below base w w' → PafPost base v ds n (pf 0 k nx ms) w (.returned v') w' from fun v' w' a b c => ⟨v', rfl, a, b, c⟩)
    have c0 := dcells_zero (n : Int) ms
    have kq : (k : Int) = 2 * (n : Int) := by omega
    clear hms hlen
    go_enter Try.func22, Try.ntmps22
    go_wp2_with (first
      | (refine wpList_load_row rfl 38 _ rfl _ rfl 38 _ (0, 0) _ (Own.new w _ _) Try.underlying38 rfl (rowP (d9 _ _ (hl.out))) ?_)
      | (refine wpList_mksl rfl 22 (.tmp 17) rfl (.agg (dcells n ms)) (.slice (some ⟨w.heap.size + 1, 0, none⟩) 1 1) rfl (by have := hmk.out (w.alloc (.cells (dcells n ms) 38)); simpa using this) ?_)
      | (refine wpList_append_rowQ rfl (.tmp 16) (.tmp 18) rfl base v ds n ms hl.out rfl ((hR.alloc _).alloc _) (w.heap.size + 1) 1 rfl (Own.at _ _ _ (by simp)) hdl (by simp; omega) ?_; intro v3 w3 hR3 hG3 hA3))
    have b3 : Below base w w3 := (((Below.refl base w).alloc hb _).alloc (by simp; omega) _).grown hG3 (by simp; omega) (fun k e => ((hR.own k e).1))
    go_ret
    exact hpost.out _ _ hR3 (((Fram.alloc _ _ _).trans (Fram.alloc _ _ _)).trans (Fram.grown hG3 hG3.size hA3)) b3
  | succ m ih =>
    intro k nx base ms v ds w hk hnx hms hR hb hlen
    have hl := Lib.hid hms
    have hk8 : (k : Int) < 8 := by omega
    have hk8' : k < 8 := by omega
    have kne : ((k : Int) == 2 * (n : Int)) = false := by simp; omega
    have hstep := Lib.hid (show ∀ (p : Nat) v' w', p ≤ nx → RowQ w' base v' (ds ++ prw n (pfT m k nx ms p)) → base ≤ w'.heap.size → Calls Try.prog 22 #[v', .agg (dcells n (ms.set k (p : Int))), .int .i64 ((k : Int) + 1), .int .u8 ((max nx (p + 1) : Nat) : Int)] w' (PafPost base v' (ds ++ prw n (pfT m k nx ms p)) n (pf m (k + 1) (max nx (p + 1)) (ms.set k (p : Int))) w') from fun p v' w' hp a b => by
      have hlp : (ds ++ prw n (pfT m k nx ms p)).length + cP m (max nx (p + 1)) ≤ 2000000 := by
        rw [List.length_append, prw_len, pfT_len _ _ _ _ _ hp]
        have := pf_room m nx p hp
        omega
      exact ih (k + 1) (max nx (p + 1)) base (ms.set k (p : Int)) v' _ w' (by omega) (by omega) (by rw [List.length_set]; exact hms) a b hlp)
    have hsx := Lib.hid (show ∀ p : Nat, (ds ++ prw n (pfT m k nx ms p)) ++ prw n (pf m (k + 1) (max nx (p + 1)) (ms.set k (p : Int))) = ds ++ prw n (pfT m k nx ms (p + 1)) from fun p => by rw [pfT_succ, prw_app, List.append_assoc])
    have hpost := Lib.hid (show ∀ v' w', RowQ w' base v' (ds ++ prw n (pfT m k nx ms (nx + 1))) → Fram v w v' w' → Below base w w' → PafPost base v ds n (pf (m + 1) k nx ms) w (.returned v') w' from fun v' w' a b c => ⟨v', rfl, a, b, c⟩)
    have h0 : ds ++ prw n (pfT m k nx ms 0) = ds := by simp [pfT_zero, prw]
    have c0 := dcells_zero (n : Int) ms
    have nxb : (nx : Int) ≤ 8 := by omega
    have bx : v.ownBlock ≠ some w.heap.size := hR.fresh (Nat.le_refl _)
    unfold PafPost at hstep
    clear hms hlen ih hk
    go_enter Try.func22, Try.ntmps22
    go_wp2
    have nO : Own (w.alloc (.cells (dcells n ms) 38)) w.heap.size (dcells n ms) 38 := Own.new _ _ _
    have nR : RowQ (w.alloc (.cells (dcells n ms) 38)) base v (ds ++ prw n (pfT m k nx ms 0)) := by rw [h0]; exact hR.alloc _
    have nF : Fram v w v (w.alloc (.cells (dcells n ms) 38)) := Fram.alloc _ _ _
    have nB : Below base w (w.alloc (.cells (dcells n ms) 38)) := (Below.refl base w).alloc hb _
    go_loopw [0, 9] (fun l i wr => ∃ (p : Nat) (ms1 : List Int), p ≤ nx + 1 ∧ i = .int .u8 p ∧ RowQ wr base l (ds ++ prw n (pfT m k nx ms p)) ∧ Fram v w l wr ∧ l.ownBlock ≠ some w.heap.size ∧ Below base w wr ∧ Own wr w.heap.size (dcells n ms1) 38 ∧ Hid (ms1.length = 8) ∧ Hid (∀ x, ms1.set k x = ms.set k x)) (fun _ i _ => ((nx : Int) + 1 - intOf i).toNat)
    case atStart => exact ⟨0, ms, by omega, rfl, nR, nF, bx, nB, nO, Lib.hid hl.out, Lib.hid (fun _ => rfl)⟩
    case round =>
      clear nR nF nB nO c0 h0
      obtain ⟨p, ms1, hp, rfl, hR1, hF, nb, hB, hO, hl1, hse⟩ := hrel
      have c0 := (hO.cell 0).trans (dcells_zero (n : Int) ms1)
      have hpI : (p : Int) ≤ (nx : Int) + 1 := by omega
      by_cases hlt : p ≤ nx
      · have pI : (p : Int) ≤ (nx : Int) := by omega
        have pI2 : (p : Int) < (nx : Int) + 1 := by omega
        have c1 := hO.cell (1 + k)
        rw [dcells_get _ _ _ (by rw [hl1.out]; exact hk8')] at c1
        have f1 := hO.free (1 + k)
        have hO2 := hO.set (1 + k) (.int .u8 (p : Int))
        rw [dcells_set, hse.out] at hO2
        have hl2 := Lib.hid (show (ms.set k (p : Int)).length = 8 by rw [List.length_set]; exact hl.out)
        have hR2 := hR1.cell (a := ⟨w.heap.size, 1 + k, none⟩) nb (.int .u8 (p : Int))
        have hF2 := hF.cell (a := ⟨w.heap.size, 1 + k, none⟩) (Nat.le_refl _) (.int .u8 (p : Int))
        have hB2 := hB.setCell (p := ⟨w.heap.size, 1 + k, none⟩) hb (.int .u8 (p : Int))
        have hc := Lib.hid (hstep.out p _ _ hlt hR2 (Nat.le_trans hb hB2.size))
        have hse2 := Lib.hid (show ∀ x, (ms.set k (p : Int)).set k x = ms.set k x from fun x => by rw [List.set_set])
        have hsp := hsx.out p
        have K1 := Lib.hid hO2
        have K2 := Lib.hid hF2
        have K3 := Lib.hid hB2
        by_cases hpn : p = nx
        · rw [show max nx (p + 1) = p + 1 by omega] at hc hsp
          have hc' := Lib.hid (show Calls Try.prog 22 #[_, .agg (dcells n (ms.set k (p : Int))), .int .i64 ((k : Int) + 1), .int .u8 ((p : Int) + 1)] _ _ from hc.out)
          have hsp' := Lib.hid hsp
          have pE : (p : Int) = (nx : Int) := by omega
          have pE2 : (nx : Int) < (p : Int) + 1 := by omega
          subst hpn
          clear hO hO2 hR1 hR2 hF hF2 hB hB2 hc hsp hstep hsx
          go_wp2_with (first
            | (refine wpList_load_row rfl 38 _ rfl _ rfl 38 _ (0, 0) _ (K1.out) Try.underlying38 rfl (rowP (d9 _ _ (hl2.out))) ?_)
            | (go_at_call 22; ((with_reducible refine (hc'.out).mono ?_); rintro e w3 ⟨v3, rfl, hR3, hF3, hB3⟩)))
          have hO3 := hF3.2.1 _ _ _ K1.out nb
          have nb3 : v3.ownBlock ≠ some w.heap.size := hF3.ne K1.out.lt nb
          rw [hsp'.out] at hR3
          go_roundw
          case rel => exact ⟨p + 1, _, by omega, by go_num, hR3, K2.out.trans hF3, nb3, K3.out.trans hB3, hO3, hl2, hse2⟩
          case measure => simp [intOf] <;> omega
        · rw [show max nx (p + 1) = nx by omega] at hc hsp
          have hsp' := Lib.hid hsp
          have pE : ¬ (p : Int) = (nx : Int) := by omega
          have pE2 : ¬ (nx : Int) < (p : Int) + 1 := by omega
          clear hO hO2 hR1 hR2 hF hF2 hB hB2 hsp hstep hsx
          go_wp2_with (first
            | (refine wpList_load_row rfl 38 _ rfl _ rfl 38 _ (0, 0) _ (K1.out) Try.underlying38 rfl (rowP (d9 _ _ (hl2.out))) ?_)
            | (go_at_call 22; ((with_reducible refine (hc.out).mono ?_); rintro e w3 ⟨v3, rfl, hR3, hF3, hB3⟩)))
          have hO3 := hF3.2.1 _ _ _ K1.out nb
          have nb3 : v3.ownBlock ≠ some w.heap.size := hF3.ne K1.out.lt nb
          rw [hsp'.out] at hR3
          go_roundw
          case rel => exact ⟨p + 1, _, by omega, by go_num, hR3, K2.out.trans hF3, nb3, K3.out.trans hB3, hO3, hl2, hse2⟩
          case measure => simp [intOf] <;> omega
      · have e : p = nx + 1 := by omega
        subst e
        have pI : ¬ ((nx + 1 : Nat) : Int) ≤ (nx : Int) := by omega
        have pI2 : ¬ ((nx + 1 : Nat) : Int) < (nx : Int) + 1 := by omega
        clear hO hstep hsx
        go_wp2
        go_ret
        exact hpost.out _ _ hR1 hF hB
set_option maxRecDepth 100000 in
set_option maxHeartbeats 4000000 in
theorem fillI_any (n : Nat) (h1 : 1 ≤ n) (h4 : n ≤ 4) (m : Nat) : ∀ (k nx base : Nat) (ms : List Int) (v : Value) (ds : List PtR) (w : World),
    k + m = 2 * n → nx ≤ k → ms.length = 8 → RowQ w base v ds → base ≤ w.heap.size → ds.length + cP m nx ≤ 2000000 →
    Calls Try.prog 23 #[v, .agg (dcells n ms), .int .i64 k, .int .u8 nx] w (PafPost base v ds n (pf m k nx ms) w) := by
  induction m with
  | zero =>
    intro k nx base ms v ds w hk hnx hms hR hb hlen
    have hl := Lib.hid hms
    have hmk := Lib.hid (fun w => mksQ n ms hms w)
    have hdl : ds.length < 2097152 := by omega
    have hpost := Lib.hid (show ∀ v' w', RowQ w' base v' (ds ++ [((n : Int), ms)]) → Fram v w v' w' → Below base w w' → PafPost base v ds n (pf 0 k nx ms) w (.returned v') w' from fun v' w' a b c => ⟨v', rfl, a, b, c⟩)
    have c0 := dcells_zero (n : Int) ms
    have kq : (k : Int) = 2 * (n : Int) := by omega
    clear hms hlen
    go_enter Try.func23, Try.ntmps23
    go_wp2_with (first
      | (refine wpList_load_row rfl 38 _ rfl _ rfl 38 _ (0, 0) _ (Own.new w _ _) Try.underlying38 rfl (rowP (d9 _ _ (hl.out))) ?_)
      | (refine wpList_mksl rfl 22 (.tmp 16) rfl (.agg (dcells n ms)) (.slice (some ⟨w.heap.size + 1, 0, none⟩) 1 1) rfl (by have := hmk.out (w.alloc (.cells (dcells n ms) 38)); simpa using this) ?_)
      | (refine wpList_append_rowQ rfl (.tmp 15) (.tmp 17) rfl base v ds n ms hl.out rfl ((hR.alloc _).alloc _) (w.heap.size + 1) 1 rfl (Own.at _ _ _ (by simp)) hdl (by simp; omega) ?_; intro v3 w3 hR3 hG3 hA3))
    have b3 : Below base w w3 := (((Below.refl base w).alloc hb _).alloc (by simp; omega) _).grown hG3 (by simp; omega) (fun k e => ((hR.own k e).1))
    go_ret
    exact hpost.out _ _ hR3 (((Fram.alloc _ _ _).trans (Fram.alloc _ _ _)).trans (Fram.grown hG3 hG3.size hA3)) b3
  | succ m ih =>
    intro k nx base ms v ds w hk hnx hms hR hb hlen
    have hl := Lib.hid hms
    have hk8 : (k : Int) < 8 := by omega
    have hk8' : k < 8 := by omega
    have kne : ((k : Int) == 2 * (n : Int)) = false := by simp; omega
    have hstep := Lib.hid (show ∀ (p : Nat) v' w', p ≤ nx → RowQ w' base v' (ds ++ prw n (pfT m k nx ms p)) → base ≤ w'.heap.size → Calls Try.prog 23 #[v', .agg (dcells n (ms.set k (p : Int))), .int .i64 ((k : Int) + 1), .int .u8 ((max nx (p + 1) : Nat) : Int)] w' (PafPost base v' (ds ++ prw n (pfT m k nx ms p)) n (pf m (k + 1) (max nx (p + 1)) (ms.set k (p : Int))) w') from fun p v' w' hp a b => by
      have hlp : (ds ++ prw n (pfT m k nx ms p)).length + cP m (max nx (p + 1)) ≤ 2000000 := by
        rw [List.length_append, prw_len, pfT_len _ _ _ _ _ hp]
        have := pf_room m nx p hp
        omega
      exact ih (k + 1) (max nx (p + 1)) base (ms.set k (p : Int)) v' _ w' (by omega) (by omega) (by rw [List.length_set]; exact hms) a b hlp)
    have hsx := Lib.hid (show ∀ p : Nat, (ds ++ prw n (pfT m k nx ms p)) ++ prw n (pf m (k + 1) (max nx (p + 1)) (ms.set k (p : Int))) = ds ++ prw n (pfT m k nx ms (p + 1)) from fun p => by rw [pfT_succ, prw_app, List.append_assoc])
    have hpost := Lib.hid (show ∀ v' w', RowQ w' base v' (ds ++ prw n (pfT m k nx ms (nx + 1))) → Fram v w v' w' → Below base w w' → PafPost base v ds n (pf (m + 1) k nx ms) w (.returned v') w' from fun v' w' a b c => ⟨v', rfl, a, b, c⟩)
    have h0 : ds ++ prw n (pfT m k nx ms 0) = ds := by simp [pfT_zero, prw]
    have c0 := dcells_zero (n : Int) ms
    have nxb : (nx : Int) ≤ 8 := by omega
    have bx : v.ownBlock ≠ some w.heap.size := hR.fresh (Nat.le_refl _)
    unfold PafPost at hstep
    clear hms hlen ih hk
    go_enter Try.func23, Try.ntmps23
    go_wp2
    have nO : Own (w.alloc (.cells (dcells n ms) 38)) w.heap.size (dcells n ms) 38 := Own.new _ _ _
    have nR : RowQ (w.alloc (.cells (dcells n ms) 38)) base v (ds ++ prw n (pfT m k nx ms 0)) := by rw [h0]; exact hR.alloc _
    have nF : Fram v w v (w.alloc (.cells (dcells n ms) 38)) := Fram.alloc _ _ _
    have nB : Below base w (w.alloc (.cells (dcells n ms) 38)) := (Below.refl base w).alloc hb _
    go_loopw [0, 21] (fun l i wr => ∃ (p : Nat) (ms1 : List Int), p ≤ nx + 1 ∧ i = .int .u8 p ∧ RowQ wr base l (ds ++ prw n (pfT m k nx ms p)) ∧ Fram v w l wr ∧ l.ownBlock ≠ some w.heap.size ∧ Below base w wr ∧ Own wr w.heap.size (dcells n ms1) 38 ∧ Hid (ms1.length = 8) ∧ Hid (∀ x, ms1.set k x = ms.set k x)) (fun _ i _ => ((nx : Int) + 1 - intOf i).toNat)
    case atStart => exact ⟨0, ms, by omega, rfl, nR, nF, bx, nB, nO, Lib.hid hl.out, Lib.hid (fun _ => rfl)⟩
    case round =>
      clear nR nF nB nO c0 h0
      obtain ⟨p, ms1, hp, rfl, hR1, hF, nb, hB, hO, hl1, hse⟩ := hrel
      have c0 := (hO.cell 0).trans (dcells_zero (n : Int) ms1)
      have hpI : (p : Int) ≤ (nx : Int) + 1 := by omega
      by_cases hlt : p ≤ nx
      · have pI : (p : Int) ≤ (nx : Int) := by omega
        have pI2 : (p : Int) < (nx : Int) + 1 := by omega
        have c1 := hO.cell (1 + k)
        rw [dcells_get _ _ _ (by rw [hl1.out]; exact hk8')] at c1
        have f1 := hO.free (1 + k)
        have hO2 := hO.set (1 + k) (.int .u8 (p : Int))
        rw [dcells_set, hse.out] at hO2
        have hl2 := Lib.hid (show (ms.set k (p : Int)).length = 8 by rw [List.length_set]; exact hl.out)
        have hR2 := hR1.cell (a := ⟨w.heap.size, 1 + k, none⟩) nb (.int .u8 (p : Int))
        have hF2 := hF.cell (a := ⟨w.heap.size, 1 + k, none⟩) (Nat.le_refl _) (.int .u8 (p : Int))
        have hB2 := hB.setCell (p := ⟨w.heap.size, 1 + k, none⟩) hb (.int .u8 (p : Int))
        have hc := Lib.hid (hstep.out p _ _ hlt hR2 (Nat.le_trans hb hB2.size))
        have hse2 := Lib.hid (show ∀ x, (ms.set k (p : Int)).set k x = ms.set k x from fun x => by rw [List.set_set])
        have hsp := hsx.out p
        have K1 := Lib.hid hO2
        have K2 := Lib.hid hF2
        have K3 := Lib.hid hB2
        by_cases hpn : p = nx
        · rw [show max nx (p + 1) = p + 1 by omega] at hc hsp
          have hc' := Lib.hid (show Calls Try.prog 23 #[_, .agg (dcells n (ms.set k (p : Int))), .int .i64 ((k : Int) + 1), .int .u8 ((p : Int) + 1)] _ _ from hc.out)
          have hsp' := Lib.hid hsp
          have pE : (p : Int) = (nx : Int) := by omega
          have pE2 : (nx : Int) < (p : Int) + 1 := by omega
          subst hpn
          clear hO hO2 hR1 hR2 hF hF2 hB hB2 hc hsp hstep hsx
          go_wp2_with (first
            | (refine wpList_load_row rfl 38 _ rfl _ rfl 38 _ (0, 0) _ (K1.out) Try.underlying38 rfl (rowP (d9 _ _ (hl2.out))) ?_)
            | (go_at_call 23; ((with_reducible refine (hc'.out).mono ?_); rintro e w3 ⟨v3, rfl, hR3, hF3, hB3⟩)))
          have hO3 := hF3.2.1 _ _ _ K1.out nb
          have nb3 : v3.ownBlock ≠ some w.heap.size := hF3.ne K1.out.lt nb
          rw [hsp'.out] at hR3
          go_roundw
          case rel => exact ⟨p + 1, _, by omega, by go_num, hR3, K2.out.trans hF3, nb3, K3.out.trans hB3, hO3, hl2, hse2⟩
          case measure => simp [intOf] <;> omega
        · rw [show max nx (p + 1) = nx by omega] at hc hsp
          have hsp' := Lib.hid hsp
          have pE : ¬ (p : Int) = (nx : Int) := by omega
          have pE2 : ¬ (nx : Int) < (p : Int) + 1 := by omega
          clear hO hO2 hR1 hR2 hF hF2 hB hB2 hsp hstep hsx
          go_wp2_with (first
            | (refine wpList_load_row rfl 38 _ rfl _ rfl 38 _ (0, 0) _ (K1.out) Try.underlying38 rfl (rowP (d9 _ _ (hl2.out))) ?_)
            | (go_at_call 23; ((with_reducible refine (hc.out).mono ?_); rintro e w3 ⟨v3, rfl, hR3, hF3, hB3⟩)))
          have hO3 := hF3.2.1 _ _ _ K1.out nb
          have nb3 : v3.ownBlock ≠ some w.heap.size := hF3.ne K1.out.lt nb
          rw [hsp'.out] at hR3
          go_roundw
          case rel => exact ⟨p + 1, _, by omega, by go_num, hR3, K2.out.trans hF3, nb3, K3.out.trans hB3, hO3, hl2, hse2⟩
          case measure => simp [intOf] <;> omega
      · have e : p = nx + 1 := by omega
        subst e
        have pI : ¬ ((nx + 1 : Nat) : Int) ≤ (nx : Int) := by omega
        have pI2 : ¬ ((nx + 1 : Nat) : Int) < (nx : Int) + 1 := by omega
        clear hO hstep hsx
        go_wp2
        go_ret
        exact hpost.out _ _ hR1 hF hB
end Go.Proofs.Ythjgcakpimbcbaa
