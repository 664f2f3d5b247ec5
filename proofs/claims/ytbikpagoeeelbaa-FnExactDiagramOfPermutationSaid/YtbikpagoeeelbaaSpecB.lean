/- Contracts of the model's unit and generators, as diagrams and with their codes. -/
import Derived.Test.YtbikpagoeeelbaaSpecA
namespace Go.Proofs.Ytbikpagoeeelbaa
open Go.RowKit
def oneL (n : Int) : Nat → List Int
  | 0 => zeros
  | k + 1 => joinL (oneL n k) k (n + k)
theorem oneL_len (n : Int) (k : Nat) : (oneL n k).length = 16 := by
  induction k with
  | zero => simp [oneL, zeros]
  | succ k ih => simp [oneL, joinL_len, ih]
set_option maxRecDepth 100000 in
set_option maxHeartbeats 400000 in
theorem oneS_any (n : Int) (w : World) (h1 : 1 ≤ n) (h8 : n ≤ 8) :
    Calls Try.prog 67 #[.int .i64 n] w fun e w' => e = .returned (.agg (dcells n (oneL n n.toNat))) ∧ Below w.heap.size w w' := by
  have hb := Lib.hid (built26one n)
  go_enter Try.func67, Try.ntmps67
  go_wp2_with (first | (refine wpList_build_of rfl 43 #[(0, .tmp 5)] rfl (dcells n zeros) ?_ ?_; (exact hb.out)) | (refine wpList_store_own rfl 43 _ _ rfl _ _ rfl rfl 43 _ (Own.at _ _ _ (by first | rfl | simp)) (row26 (d17 _ _ (zlen))) (dz _ _ zlen) (dcells_one _ _) ?_; intro w1 hO1 hN1))
  have hR1 : Own w1 w.heap.size zcells 43 := (Own.alloc (Own.new _ _ _) _).only hN1 (by omega)
  have hB1 : Below w.heap.size w w1 := (((Below.refl _ _).alloc (Nat.le_refl _) _).alloc (by simp) _).trans (hN1.below.mono (by omega))
  clear hN1 hb
  go_loopw [4] (fun i wr => ∃ k : Nat, k ≤ n ∧ i = .int .i64 k ∧ Own wr (w.heap.size + 1) (dcells n (oneL n k)) 43 ∧ Own wr w.heap.size zcells 43 ∧ Below w.heap.size w wr) (fun i _ => (n - intOf i).toNat)
  case atStart => exact ⟨0, by omega, rfl, hO1, hR1, hB1⟩
  case round =>
    obtain ⟨k, hk, rfl, hO, hR, hB⟩ := hrel
    have hl := Lib.hid (oneL_len n k)
    have hs := hB.size
    by_cases hlt : (k : Int) < n
    · go_wp2_with (first
    | (refine wpList_load_row rfl 43 _ rfl _ rfl 43 _ (0, 0) _ (hO) Try.underlying43 rfl (row26 (d17 _ _ (hl.out))) ?_) | (go_at_call 84; refine (joinS_any n (oneL n k) hl.out k (n + k) _ (by omega) (by omega) (by omega) (by omega)).mono ?_; rintro e w2 ⟨rfl, hB2⟩) | (refine wpList_store_own rfl 43 _ _ rfl _ _ rfl rfl 43 _ (hO.below hB2 hO.lt) (row26 (d17 _ _ (joinL_len _ _ _ |>.trans hl.out))) (dd _ _ _ _ hl.out (joinL_len _ _ _ |>.trans hl.out)) (dcells_one _ _) ?_; intro w3 hO3 hN3))
      have hR3 := (hR.below hB2 hR.lt).only hN3 (by omega)
      have hB3 : Below w.heap.size w w3 := (hB.trans (hB2.mono hs)).trans (hN3.below.mono (by omega))
      clear hO hR hB hB2 hN3 hl
      go_wp2
      go_roundw
      case rel => exact ⟨k + 1, by omega, by go_num, hO3, hR3, hB3⟩
      case measure => simp [intOf]; omega
    · go_wp2_with (first
    | (refine wpList_load_row rfl 43 _ rfl _ rfl 43 _ (0, 0) _ (hO) Try.underlying43 rfl (row26 (d17 _ _ (hl.out))) ?_) | (refine wpList_store_own rfl 43 _ _ rfl _ _ rfl rfl 43 _ (hR) (row26 (d17 _ _ (hl.out))) (dz _ _ hl.out) (dcells_one _ _) ?_; intro w3 hO3 hN3))
      have hk' : n.toNat = k := by omega
      rw [hk']
      refine bodyPost_ret (v := .agg (dcells n (oneL n k))) (results_cell_row rfl _ _ _ _ _ (0, 0) _ rfl (hO3) Try.underlying43 rfl (row26 (d17 _ _ (hl.out)))) rfl (⟨rfl, hB.trans (hN3.below.mono (Nat.le_refl _))⟩)

def cupL (n i : Int) : List Int := joinL (joinL (oneL n n.toNat) i (i + 1)) (n + i) (n + i + 1)
theorem cupL_len (n i : Int) : (cupL n i).length = 16 := by simp [cupL, joinL_len, oneL_len]
set_option maxRecDepth 100000 in
theorem cupS_any (n i : Int) (w : World) (h1 : 2 ≤ n) (h8 : n ≤ 8) (h0 : 0 ≤ i) (hi : i ≤ n - 2) :
    Calls Try.prog 69 #[.int .i64 n, .int .i64 i] w fun e w' => e = .returned (.agg (dcells n (cupL n i))) ∧ Below w.heap.size w w' := by
  have hl := Lib.hid (oneL_len n n.toNat)
  have hl2 := Lib.hid (joinL_len (oneL n n.toNat) i (i + 1) |>.trans hl.out)
  have hl3 : Hid ((joinL (joinL (oneL n n.toNat) i (i + 1)) (n + i) (n + i + 1)).length = 16) := Lib.hid (cupL_len n i)
  go_enter Try.func69, Try.ntmps69
  go_wp2_with (first
    | (go_at_call 67; ((with_reducible refine (oneS_any n _ (by omega) h8).mono ?_); rintro e w1 ⟨rfl, hB1⟩))
    | (go_at_call 84; ((with_reducible refine (joinS_any n (oneL n n.toNat) hl.out i (i + 1) _ (by omega) (by omega) (by omega) (by omega)).mono ?_); rintro e w2 ⟨rfl, hB2⟩))
    | (go_at_call 84; ((with_reducible refine (joinS_any n (joinL (oneL n n.toNat) i (i + 1)) hl2.out (n + i) (n + i + 1) _ (by omega) (by omega) (by omega) (by omega)).mono ?_); rintro e w3 ⟨rfl, hB3⟩))
    | (refine wpList_store_own rfl 43 _ _ rfl _ _ rfl rfl 43 _ ((((Own.new w _ _).below hB1 (by simp)).below hB2 (Nat.lt_of_lt_of_le (by simp) hB1.size)).below hB3 (Nat.lt_of_lt_of_le (Nat.lt_of_lt_of_le (by simp) hB1.size) hB2.size)) (row26 (d17 _ _ (hl3.out))) (by rw [d17 _ _ hl3.out]; rfl) (dcells_one _ _) ?_; intro w4 hO4 hN4))
  refine bodyPost_ret (v := .agg (dcells n (cupL n i))) (results_cell_row rfl _ _ _ _ _ (0, 0) _ rfl (hO4) Try.underlying43 rfl (row26 (d17 _ _ (hl3.out)))) rfl (⟨rfl, ?_⟩)
  refine Below.trans ?_ (hN4.below.mono (Nat.le_refl _))
  have h0 : Below w.heap.size w (w.alloc (.cells zcells 43)) := (Below.refl _ _).alloc (Nat.le_refl _) _
  exact ((h0.trans (hB1.mono h0.size)).trans (hB2.mono (Nat.le_trans h0.size hB1.size))).trans (hB3.mono (Nat.le_trans (Nat.le_trans h0.size hB1.size) hB2.size))

def isOk (b : Bool) : Int := if b then 0 else 2
end Go.Proofs.Ytbikpagoeeelbaa
