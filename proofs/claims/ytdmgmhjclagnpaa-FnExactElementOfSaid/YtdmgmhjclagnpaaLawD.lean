/- Contracts of the laws' own copies of diagrams. -/
import Derived.Test.YtdmgmhjclagnpaaLawA
namespace Go.Proofs.Ytdmgmhjclagnpaa
open Go.RowKit
/-- The first k of the numbers, and zeros behind them. -/
def cpy (ms : List Int) : Nat → List Int
  | 0 => zeros
  | k + 1 => (cpy ms k).set k (ms.getD k 0)
theorem cpy_len (ms : List Int) (k : Nat) : (cpy ms k).length = 16 := by
  induction k with
  | zero => rfl
  | succ k ih => simp [cpy, ih]
theorem cpy_end (ms : List Int) (h : ms.length = 16) : cpy ms 16 = ms := by
  obtain ⟨a0, a1, a2, a3, a4, a5, a6, a7, a8, a9, b0, b1, b2, b3, b4, b5, rfl⟩ := list16 ms h
  rfl
theorem one24 (ms : List Int) : (mcells ms).all (·.oneCell') = true := by simp [mcells, Value.oneCell']
set_option maxRecDepth 100000 in
set_option maxHeartbeats 400000 in
theorem toB_any (ms : List Int) (hms : ms.length = 16) (w : World) :
    Calls Try.prog 56 #[.agg (mcells ms)] w fun e w' => e = .returned (.agg (mcells ms)) ∧ Below w.heap.size w w' := by
  have hl := Lib.hid hms
  clear hms
  go_enter Try.func56, Try.ntmps56
  go_wp2
  go_loopw [4] (fun i wr => ∃ k : Nat, k ≤ 16 ∧ i = .int .i64 k ∧ Own wr w.heap.size (mcells ms) 49 ∧ Own wr (w.heap.size + 1) (mcells zeros) 49 ∧ Own wr (w.heap.size + 2) (mcells (cpy ms k)) 49 ∧ Below w.heap.size w wr) (fun i _ => (16 - intOf i).toNat)
  case atStart => exact ⟨0, by omega, rfl, Own.alloc (Own.alloc (Own.new _ _ _) _) _, Own.alloc (Own.at _ _ _ (by simp)) _, Own.at _ _ _ (by simp), (((Below.refl _ _).alloc (Nat.le_refl _) _).alloc (by simp) _).alloc (by simp; omega) _⟩
  case round =>
    obtain ⟨k, hk, rfl, hO, hR, hT, hB⟩ := hrel
    by_cases hlt : k < 16
    · have c1 := hO.cell k
      rw [mcells_get _ _ (by rw [hl.out]; exact hlt)] at c1
      have c2 := hT.cell k
      rw [mcells_get _ _ (by rw [cpy_len]; exact hlt)] at c2
      have f2 := hT.free k
      have hT2 := hT.set k (.int .u8 (ms.getD k 0))
      rw [mcells_set] at hT2
      have hO2 := hO.other (a := ⟨w.heap.size + 2, k, none⟩) (by simp) (.int .u8 (ms.getD k 0))
      have hR2 := hR.other (a := ⟨w.heap.size + 2, k, none⟩) (by simp) (.int .u8 (ms.getD k 0))
      have hB2 := hB.setCell (p := ⟨w.heap.size + 2, k, none⟩) (by simp) (.int .u8 (ms.getD k 0))
      have K1 := Lib.hid hT2
      have K2 := Lib.hid hO2
      have K3 := Lib.hid hR2
      clear hT2 hO2 hR2
      go_wp2
      go_roundw
      case rel => exact ⟨k + 1, by omega, by go_num, K2.out, K3.out, K1.out, hB2⟩
      case measure => simp [intOf]; omega
    · have hk16 : k = 16 := by omega
      subst hk16
      rw [cpy_end _ hl.out] at hT
      go_wp2_with (first
        | (refine wpList_load_row rfl 49 (.tmp 3) rfl _ rfl 49 _ (0, 0) _ hT Try.underlying49 rfl (row24 (m16 _ hl.out)) ?_)
        | (refine wpList_store_own rfl 49 (.tmp 2) (.tmp 14) rfl _ _ rfl rfl 49 _ hR (row24 (m16 _ hl.out)) (by rw [m16 _ hl.out]; rfl) (one24 _) ?_; intro w4 hO4 hN4))
      refine bodyPost_ret (v := .agg (mcells ms)) (results_cell_row rfl _ _ _ _ _ (0, 0) _ rfl hO4 Try.underlying49 rfl (row24 (m16 _ hl.out))) rfl ⟨rfl, hB.trans (hN4.below.mono (by omega))⟩
/-- A diagram's number of cells, in the laws' own type. -/
theorem row50 {c : Array Value} (h : c.size = 17) : (Try.prog.info? 51).map (·.size) = some c.size := by
  rw [h]; kernel_rfl
def setMany (cs : Array Value) : Nat → List Value → Array Value
  | _, [] => cs
  | o, v :: r => setMany (cs.setIfInBounds o v) (o + 1) r
theorem Own.many {b : Nat} {t : TypeId} : ∀ (vs : List Value) (o : Nat) {w : World} {cs : Array Value}, Own w b cs t → Own (w.setCells b o vs) b (setMany cs o vs) t
  | [], _, _, _, h => h
  | v :: r, o, _, _, h => Own.many r (o + 1) (h.set o v)
theorem Only.many {b : Nat} : ∀ (vs : List Value) (o : Nat) (w : World), Only b w (w.setCells b o vs)
  | [], _, w => Only.refl b w
  | v :: r, o, w => (Only.set b o w v).trans (Only.many r (o + 1) _)
theorem many_mates (n : Int) (ms0 ms : List Int) (h0 : ms0.length = 16) (h : ms.length = 16) : setMany (dcells n ms0) 1 (mcells ms).toList = dcells n ms := by
  obtain ⟨a0, a1, a2, a3, a4, a5, a6, a7, a8, a9, b0, b1, b2, b3, b4, b5, rfl⟩ := list16 ms h
  obtain ⟨c0, c1, c2, c3, c4, c5, c6, c7, c8, c9, e0, e1, e2, e3, e4, e5, rfl⟩ := list16 ms0 h0
  kernel_rfl
/-- The mates of a diagram are stored, as a whole. -/
theorem wpList_store_mates {P : Program} {ops : Array Oper} {rest : List Oper} {o : Oper} {a : Act} {w : World} {Q : Exit → Act → World → Prop} (hgd : o.guard = none) (ty : TypeId) (x y : Operand) (ho : o.op = .store ty x y)
    (g : Nat) (n : Int) (ms ms0 : List Int) (hx : a.eval x = .pointer (some ⟨g, 1, none⟩)) (hy : a.eval y = .agg (mcells ms))
    (t : TypeId) (hg : Own w g (dcells n ms0) t) (h0 : ms0.length = 16) (h1 : ms.length = 16) (hi : (P.info? ty).map (·.size) = some (mcells ms).size)
    (h : ∀ w', Own w' g (dcells n ms) t → Only g w w' → wpList P ops Q rest (a.put o.dst undef) w') : wpList P ops Q (o :: rest) a w := by
  have hth : w.there g 1 (mcells ms).size := by
    intro j hj
    rw [m16 ms h1] at hj
    refine ⟨?_, hg.free _⟩
    rw [hg.cell, dcells_get n ms0 j (by omega)]
    rfl
  refine wpList_store_mid hgd ty x y ho g 1 (mcells ms) hx hy hth hi (one24 ms) (h _ ?_ (Only.many _ _ _))
  have := hg.many (mcells ms).toList 1
  rwa [many_mates n ms0 ms h0 h1] at this
set_option maxRecDepth 100000 in
set_option maxHeartbeats 400000 in
theorem toD_any (n : Int) (ms : List Int) (hms : ms.length = 16) (w : World) :
    Calls Try.prog 28 #[.agg (dcells n ms)] w fun e w' => e = .returned (.agg (dcells n ms)) ∧ Below w.heap.size w w' := by
  have hl := Lib.hid hms
  have c0 := dcells_zero n ms
  clear hms
  go_enter Try.func28, Try.ntmps28
  go_wp2_with (first
    | (refine wpList_load_mid rfl 49 (.tmp 7) rfl _ 1 rfl _ _ (Own.mates (((Own.new _ _ _).alloc _).alloc _)) Try.underlying49 rfl (len16 hl.out) ?_)
    | (go_at_call 56; refine (toB_any ms hl.out _).mono ?_; rintro e w1 ⟨rfl, hB1⟩)
    | (refine wpList_store_mates rfl 49 (.tmp 10) (.tmp 9) rfl (w.heap.size + 1 + 1) n ms zeros rfl rfl 53 ((Own.at _ _ _ (by simp)).below hB1 (by simp)) zlen hl.out (row24 (m16 _ hl.out)) ?_; intro w2 hO2 hN2)
    | (refine wpList_load_row rfl 53 _ rfl _ rfl 53 _ (0, 0) _ (hO2) Try.underlying53 rfl (row26 (d17 _ _ (hl.out))) ?_)
    | (refine wpList_store_own rfl 53 _ _ rfl _ _ rfl rfl 53 _ (((Own.alloc (Own.at (w.alloc _) _ _ (by simp)) _).below hB1 (by simp <;> omega)).only hN2 (by omega)) (row26 (d17 _ _ (hl.out))) (z_eq (d17 _ _ hl.out)) (dcells_one _ _) ?_; intro w3 hO3 hN3))
  refine bodyPost_ret (v := .agg (dcells n ms)) (results_cell_row rfl _ _ _ _ _ (0, 0) _ rfl (hO3) Try.underlying53 rfl (row26 (d17 _ _ (hl.out)))) rfl (⟨rfl, ?_⟩)
  have b0 : Below w.heap.size w (((w.alloc (.cells (dcells n ms) 51)).alloc (.cells zcells 53)).alloc (.cells (dcells n zeros) 53)) := (((Below.refl _ _).alloc (Nat.le_refl _) _).alloc (by simp) _).alloc (by simp; omega) _
  have b1 : Below w.heap.size w w1 := b0.trans (hB1.mono b0.size)
  exact (b1.trans (hN2.below.mono (by omega))).trans (hN3.below.mono (by omega))
end Go.Proofs.Ytdmgmhjclagnpaa
