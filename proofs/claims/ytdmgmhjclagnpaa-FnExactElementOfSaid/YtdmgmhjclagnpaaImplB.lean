/- Contracts of the program's unit and generators, with their codes. -/
import Derived.Test.YtdmgmhjclagnpaaImplA
import Derived.Test.YtdmgmhjclagnpaaSpecB
namespace Go.Proofs.Ytdmgmhjclagnpaa
open Go.RowKit
set_option maxRecDepth 100000 in
set_option maxHeartbeats 400000 in
theorem unitI_ok (n : Int) (w : World) (h1 : 1 ≤ n) (h8 : n ≤ 8) :
    Calls Try.prog 62 #[.int .i64 n] w fun e w' => e = .returned (.tuple #[.agg (dcells n (oneL n n.toNat)), .int .i64 0]) ∧ Below w.heap.size w w' := by
  go_enter Try.func62, Try.ntmps62
  go_wp2_with (first
    | (go_at_call 68; ((with_reducible refine (isSize_t _ _ (by omega) (by omega)).mono ?_); rintro e w0 ⟨rfl, rfl⟩))
    | (go_at_call 82; ((with_reducible refine (newMates_any _).mono ?_); rintro e w0 ⟨rfl, rfl⟩)))
  go_loopw [12] (fun i wr => ∃ k : Nat, k ≤ n ∧ i = .int .i64 k ∧ Own wr (w.heap.size + 1) (mcells (oneL n k)) 5 ∧ Own wr w.heap.size zcells 53 ∧ Below w.heap.size w wr) (fun i _ => (n - intOf i).toNat)
  case atStart => exact ⟨0, by omega, rfl, Own.at _ _ _ (by simp), Own.alloc (Own.new _ _ _) _, ((Below.refl _ _).alloc (Nat.le_refl _) _).alloc (by simp) _⟩
  case round =>
    obtain ⟨k, hk, rfl, hO, hR, hB⟩ := hrel
    have hl := Lib.hid (oneL_len n k)
    have hs := hB.size
    by_cases hlt : (k : Int) < n
    · go_wp2_with (first
        | (go_at_call 83; ((with_reducible refine (join_any _ _ hl.out k (n + k) _ hO (by omega) (by omega) (by omega) (by omega)).mono ?_); rintro e w2 ⟨rfl, hO2, hN2⟩)))
      have hR3 := hR.only hN2 (by omega)
      have hB3 : Below w.heap.size w w2 := hB.trans (hN2.below.mono (by omega))
      clear hO hR hB hN2 hl
      go_wp2
      go_roundw
      case rel => exact ⟨k + 1, by omega, by go_num, hO2, hR3, hB3⟩
      case measure => simp [intOf]; omega
    · go_wp2_with (first
        | (go_at_call 84; ((with_reducible refine (dom_any _ _ hl.out n _ hO).mono ?_); rintro e w2 ⟨rfl, hB2⟩))
        | (refine wpList_store_own rfl 53 _ _ rfl _ _ rfl rfl 53 _ (hR.below hB2 hR.lt) (row26 (d17 _ _ (hl.out))) (z_eq (d17 _ _ hl.out)) (dcells_one _ _) ?_; intro w3 hO3 hN3))
      have hk' : n.toNat = k := by omega
      rw [hk']
      refine bodyPost_ret (v := .tuple #[.agg (dcells n (oneL n k)), .int .i64 0]) (results_row_tmp rfl _ _ _ _ _ (0, 0) _ rfl (hO3) Try.underlying53 rfl (row26 (d17 _ _ (hl.out))) _ rfl) rfl (⟨rfl, (hB.trans (hB2.mono hs)).trans (hN3.below.mono (Nat.le_refl _))⟩)
set_option maxRecDepth 100000 in
theorem unitI_bad (n : Int) (w : World) (h : n < 1 ∨ 8 < n) :
    Calls Try.prog 62 #[.int .i64 n] w fun e w' => e = .returned (.tuple #[.agg zcells, .int .i64 2]) ∧ Below w.heap.size w w' := by
  have hs := Lib.hid h
  clear h
  go_enter Try.func62, Try.ntmps62
  go_wp2_with (first
    | (go_at_call 68; ((with_reducible refine (isSize_f _ _ hs.out).mono ?_); rintro e w0 ⟨rfl, rfl⟩))
    | (refine wpList_build_of rfl 53 #[] rfl zcells ?_ ?_; (exact built26nil)) | (refine wpList_store_own rfl 53 _ _ rfl _ _ rfl rfl 53 _ (Own.new w _ _) (row26 (d17 _ _ (zlen))) (rfl) (dcells_one _ _) ?_; intro w4 hO4 hN4))
  refine bodyPost_ret (v := .tuple #[.agg (zcells), .int .i64 2]) (results_row_tmp rfl _ _ _ _ _ (0, 0) _ rfl (hO4) Try.underlying53 rfl (row26 (d17 _ _ (zlen))) _ rfl) rfl (⟨rfl, ?_⟩)
  refine Below.trans ?_ (hN4.below.mono (Nat.le_refl _))
  exact (Below.refl _ _).alloc (Nat.le_refl _) _
/-- The lines of a generator but for its two short ones. -/
def genL (n i : Int) : Nat → List Int
  | 0 => zeros
  | k + 1 => if (k : Int) = i ∨ (k : Int) = i + 1 then genL n i k else joinL (genL n i k) k (n + k)
theorem genL_len (n i : Int) (k : Nat) : (genL n i k).length = 16 := by
  induction k with
  | zero => simp [genL, zeros]
  | succ k ih => unfold genL; split <;> simp [joinL_len, ih]
def genD (n i : Int) : List Int := joinL (joinL (genL n i n.toNat) i (i + 1)) (n + i) (n + i + 1)
theorem genD_len (n i : Int) : (genD n i).length = 16 := by simp [genD, joinL_len, genL_len]
theorem genD_nat : ∀ n i : Nat, n ≤ 8 → i < n - 1 → genD n i = cupL n i := by
  have h : ∀ n, n ≤ 8 → ∀ i, i < n - 1 → genD (n : Nat) (i : Nat) = cupL (n : Nat) (i : Nat) := by decide +kernel
  exact fun n i hn hi => h n hn i hi
theorem genD_cup (n i : Int) (h1 : 2 ≤ n) (h8 : n ≤ 8) (h0 : 0 ≤ i) (hi : i ≤ n - 2) : genD n i = cupL n i := by
  have := genD_nat n.toNat i.toNat (by omega) (by omega)
  have e1 : ((n.toNat : Nat) : Int) = n := by omega
  have e2 : ((i.toNat : Nat) : Int) = i := by omega
  rwa [e1, e2] at this
end Go.Proofs.Ytdmgmhjclagnpaa
