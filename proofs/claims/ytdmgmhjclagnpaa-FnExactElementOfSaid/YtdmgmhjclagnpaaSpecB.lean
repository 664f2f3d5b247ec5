/- Contracts of the model's unit and generators, as diagrams and with their codes. -/
import Derived.Test.YtdmgmhjclagnpaaSpecA
namespace Go.Proofs.Ytdmgmhjclagnpaa
open Go.RowKit
def oneL (n : Int) : Nat → List Int
  | 0 => zeros
  | k + 1 => joinL (oneL n k) k (n + k)
theorem oneL_len (n : Int) (k : Nat) : (oneL n k).length = 16 := by
  induction k with
  | zero => simp [oneL, zeros]
  | succ k ih => simp [oneL, joinL_len, ih]
set_option maxRecDepth 100000 in
set_option maxHeartbeats 400000 in
theorem oneS_any (n : Int) (w : World) (h1 : 1 ≤ n) (h8 : n ≤ 8) :
    Calls Try.prog 94 #[.int .i64 n] w fun e w' => e = .returned (.agg (dcells n (oneL n n.toNat))) ∧ Below w.heap.size w w' := by
  have hb := Lib.hid (built26one n)
  go_enter Try.func94, Try.ntmps94
  go_wp2_with (first | (refine wpList_build_of rfl 53 #[(0, .tmp 5)] rfl (dcells n zeros) ?_ ?_; (exact hb.out)) | (refine wpList_store_own rfl 53 _ _ rfl _ _ rfl rfl 53 _ (Own.at _ _ _ (by first | rfl | simp)) (row26 (d17 _ _ (zlen))) (dz _ _ zlen) (dcells_one _ _) ?_; intro w1 hO1 hN1))
  have hR1 : Own w1 w.heap.size zcells 53 := (Own.alloc (Own.new _ _ _) _).only hN1 (by omega)
  have hB1 : Below w.heap.size w w1 := (((Below.refl _ _).alloc (Nat.le_refl _) _).alloc (by simp) _).trans (hN1.below.mono (by omega))
  clear hN1 hb
  go_loopw [4] (fun i wr => ∃ k : Nat, k ≤ n ∧ i = .int .i64 k ∧ Own wr (w.heap.size + 1) (dcells n (oneL n k)) 53 ∧ Own wr w.heap.size zcells 53 ∧ Below w.heap.size w wr) (fun i _ => (n - intOf i).toNat)
  case atStart => exact ⟨0, by omega, rfl, hO1, hR1, hB1⟩
  case round =>
    obtain ⟨k, hk, rfl, hO, hR, hB⟩ := hrel
    have hl := Lib.hid (oneL_len n k)
    have hs := hB.size
    by_cases hlt : (k : Int) < n
    · go_wp2_with (first
    | (refine wpList_load_row rfl 53 _ rfl _ rfl 53 _ (0, 0) _ (hO) Try.underlying53 rfl (row26 (d17 _ _ (hl.out))) ?_) | (go_at_call 100; refine (joinS_any n (oneL n k) hl.out k (n + k) _ (by omega) (by omega) (by omega) (by omega)).mono ?_; rintro e w2 ⟨rfl, hB2⟩) | (refine wpList_store_own rfl 53 _ _ rfl _ _ rfl rfl 53 _ (hO.below hB2 hO.lt) (row26 (d17 _ _ (joinL_len _ _ _ |>.trans hl.out))) (dd _ _ _ _ hl.out (joinL_len _ _ _ |>.trans hl.out)) (dcells_one _ _) ?_; intro w3 hO3 hN3))
      have hR3 := (hR.below hB2 hR.lt).only hN3 (by omega)
      have hB3 : Below w.heap.size w w3 := (hB.trans (hB2.mono hs)).trans (hN3.below.mono (by omega))
      clear hO hR hB hB2 hN3 hl
      go_wp2
      go_roundw
      case rel => exact ⟨k + 1, by omega, by go_num, hO3, hR3, hB3⟩
      case measure => simp [intOf]; omega
    · go_wp2_with (first
    | (refine wpList_load_row rfl 53 _ rfl _ rfl 53 _ (0, 0) _ (hO) Try.underlying53 rfl (row26 (d17 _ _ (hl.out))) ?_) | (refine wpList_store_own rfl 53 _ _ rfl _ _ rfl rfl 53 _ (hR) (row26 (d17 _ _ (hl.out))) (dz _ _ hl.out) (dcells_one _ _) ?_; intro w3 hO3 hN3))
      have hk' : n.toNat = k := by omega
      rw [hk']
      refine bodyPost_ret (v := .agg (dcells n (oneL n k))) (results_cell_row rfl _ _ _ _ _ (0, 0) _ rfl (hO3) Try.underlying53 rfl (row26 (d17 _ _ (hl.out)))) rfl (⟨rfl, hB.trans (hN3.below.mono (Nat.le_refl _))⟩)

def cupL (n i : Int) : List Int := joinL (joinL (oneL n n.toNat) i (i + 1)) (n + i) (n + i + 1)
theorem cupL_len (n i : Int) : (cupL n i).length = 16 := by simp [cupL, joinL_len, oneL_len]
def isOk (b : Bool) : Int := if b then 0 else 2
end Go.Proofs.Ytdmgmhjclagnpaa
