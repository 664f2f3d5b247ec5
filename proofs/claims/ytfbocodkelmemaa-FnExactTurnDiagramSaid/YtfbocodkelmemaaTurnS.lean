/- The contract of the model's turn, and the mathematics that it wants. -/
import Derived.Test.YtfbocodkelmemaaTurnC
import Derived.Test.YtfbocodkelmemaaMvMath
import Derived.Test.YtfbocodkelmemaaSpecC
import Derived.RegionTactic
import Derived.ChangeAlike
namespace Go.Proofs.Ytfbocodkelmemaa
open Go.RowKit
/-- Mates are set, point by point, in an order of its own. -/
def stO (f : Int → Int) (ms : List Int) (o : Int → Int) : Nat → List Int
  | 0 => zeros
  | k + 1 => (stO f ms o k).set (f (o k)).toNat (f (mate ms (o k)))
theorem stO_len (f : Int → Int) (ms : List Int) (o : Int → Int) (k : Nat) : (stO f ms o k).length = 16 := by
  induction k with
  | zero => rfl
  | succ k ih => simp [stO, ih]
theorem stO_get {n : Int} {ms : List Int} {f o : Int → Int} (hf : ∀ i, 0 ≤ i → i < 2 * n → 0 ≤ f (o i) ∧ f (o i) < 16) (hi : ∀ i j, 0 ≤ i → i < 2 * n → 0 ≤ j → j < 2 * n → f (o i) = f (o j) → i = j)
    (k : Nat) (hk : (k : Int) ≤ 2 * n) (i : Int) (h0 : 0 ≤ i) (h2 : i < k) : (stO f ms o k).getD (f (o i)).toNat 0 = f (mate ms (o i)) := by
  induction k with
  | zero => omega
  | succ k ih =>
    have hk' : (k : Int) < 2 * n := by omega
    have b1 := hf k (by omega) hk'
    have b3 := hf i h0 (by omega)
    rw [stO, set_get _ (stO_len f ms o k) _ (by omega)]
    by_cases e : (f (o i)).toNat = (f (o k)).toNat
    · have := hi i k h0 (by omega) (by omega) hk' (by omega)
      rw [if_pos e, this]
    · rw [if_neg e]
      exact ih (by omega) (by
        have : i ≠ k := fun x => e (by rw [x])
        omega)
theorem stO_out {n : Int} {ms : List Int} {f o : Int → Int} (hf : ∀ i, 0 ≤ i → i < 2 * n → 0 ≤ f (o i) ∧ f (o i) < 16) (k : Nat) (hk : (k : Int) ≤ 2 * n) (j : Nat) (h : ∀ i, 0 ≤ i → i < 2 * n → f (o i) ≠ j) : (stO f ms o k).getD j 0 = 0 := by
  induction k with
  | zero => exact zeros_get j
  | succ k ih =>
    have hk' : (k : Int) < 2 * n := by omega
    have b1 := hf k (by omega) hk'
    rw [stO, set_get _ (stO_len f ms o k) _ (by omega), if_neg (fun e => h k (by omega) hk' (by omega))]
    exact ih (by omega)
theorem u8_in (b : Int) (h0 : 0 ≤ b) (h : b ≤ 255) : IntKind.u8.wrap b = b := by
  simp [IntKind.wrap, IntKind.signed, IntKind.bits]; omega
theorem turn_inj (n i j : Int) (hi : 0 ≤ i ∧ i < 2 * n) (hj : 0 ≤ j ∧ j < 2 * n) (h : turnF n i = turnF n j) : i = j := by
  have a := pl_lt n i hi.1 hi.2
  have b := pl_lt n j hj.1 hj.2
  have key : ∀ x : Int, 0 ≤ x → x < 2 * n → (x + 1) % (2 * n) = if x + 1 < 2 * n then x + 1 else 0 := by
    intro x x0 x2
    by_cases e : x + 1 < 2 * n
    · rw [if_pos e]; exact Int.emod_eq_of_lt (by omega) e
    · rw [if_neg e, show x + 1 = 2 * n by omega, Int.emod_self]
  have k1 := key _ a.1 a.2
  have k2 := key _ b.1 b.2
  unfold turnF at h
  have h' := congrArg (pl n) h
  rw [pl_pl n _ (by rw [k1]; split <;> omega) (by rw [k1]; split <;> omega), pl_pl n _ (by rw [k2]; split <;> omega) (by rw [k2]; split <;> omega), k1, k2] at h'
  have e : pl n i = pl n j := by split at h' <;> split at h' <;> omega
  rw [← pl_pl n i hi.1 hi.2, e, pl_pl n j hj.1 hj.2]
theorem mv_eq_stO {n : Int} {ms : List Int} (hb : Bytes ms) (hd : IsS n ms) : mvL (turnF n) ms zeros (2 * n).toNat = stO (turnF n) ms (pl n) (2 * n).toNat := by
  have hn := hd.1
  have hf : ∀ i, 0 ≤ i → i < 2 * n → 0 ≤ turnF n i ∧ turnF n i < 16 := fun i h0 h2 => turnC_bd n i hn.1 hn.2 h0 h2
  have hi : ∀ i j, 0 ≤ i → i < 2 * n → 0 ≤ j → j < 2 * n → turnF n i = turnF n j → i = j := fun i j a b c d h => turn_inj n i j ⟨a, b⟩ ⟨c, d⟩ h
  have hfo : ∀ i, 0 ≤ i → i < 2 * n → 0 ≤ turnF n (pl n i) ∧ turnF n (pl n i) < 16 := fun i h0 h2 => hf _ (pl_lt n i h0 h2).1 (pl_lt n i h0 h2).2
  have hio : ∀ i j, 0 ≤ i → i < 2 * n → 0 ≤ j → j < 2 * n → turnF n (pl n i) = turnF n (pl n j) → i = j := fun i j a b c d h => by
    have := hi _ _ (pl_lt n i a b).1 (pl_lt n i a b).2 (pl_lt n j c d).1 (pl_lt n j c d).2 h
    rw [← pl_pl n i a b, this, pl_pl n j c d]
  apply List.ext_getElem (by rw [mvL_len _ ms zeros zlen, stO_len])
  intro j h1 h2
  have g1 : (mvL (turnF n) ms zeros (2 * n).toNat).getD j 0 = (mvL (turnF n) ms zeros (2 * n).toNat)[j] := by rw [List.getD_eq_getElem?_getD, List.getElem?_eq_getElem h1]; rfl
  have g2 : (stO (turnF n) ms (pl n) (2 * n).toNat).getD j 0 = (stO (turnF n) ms (pl n) (2 * n).toNat)[j] := by rw [List.getD_eq_getElem?_getD, List.getElem?_eq_getElem h2]; rfl
  rw [← g1, ← g2]
  by_cases h : ∃ i, (0 ≤ i ∧ i < 2 * n) ∧ turnF n i = j
  · obtain ⟨i, ⟨h0, h3⟩, e⟩ := h
    have p := pl_lt n i h0 h3
    have r := mv_get hb hd hf hi (2 * n).toNat (by omega) i h0 h3 (.inl (by omega))
    have t := stO_get (ms := ms) hfo hio (2 * n).toNat (by omega) (pl n i) p.1 (by omega)
    rw [pl_pl n i h0 h3] at t
    rw [show (turnF n i).toNat = j by omega] at r t
    rw [r, t]
  · have h' : ∀ i, 0 ≤ i → i < 2 * n → turnF n i ≠ j := fun i a b e => h ⟨i, ⟨a, b⟩, e⟩
    rw [mv_out hb hd hf _ (by omega) j h', stO_out hfo _ (by omega) j (fun i a b => h' _ (pl_lt n i a b).1 (pl_lt n i a b).2)]
set_option maxRecDepth 100000 in
set_option maxHeartbeats 2000000 in
theorem TurnDiagramS_ok (n : Int) (ms : List Int) (hms : ms.length = 16) (hb : Bytes ms) (hd : isD n ms = true) (w : World) :
    Calls Try.prog 32 #[.agg (dcells n ms)] w fun e w' => e = .returned (.tuple #[.agg (dcells n (stO (turnF n) ms (pl n) (2 * n).toNat)), .int .i64 0]) ∧ Below w.heap.size w w' := by
  have hl := Lib.hid hms
  have hbb := Lib.hid hb
  have hIs := (isD_iff n ms hms hb).1 hd
  have hc := Lib.hid (fun w => l01Is_dec n ms hms hb w)
  rw [hd] at hc
  have hmt := Lib.hid (fun (p : Int) (h0 : 0 ≤ p) (h2 : p < 2 * n) => mate_lt hb hIs p h0 h2)
  obtain ⟨h1, h8⟩ := hIs.1
  have c0 := Lib.hid (dcells_zero n ms)
  clear hms hb hd hIs
  go_enter Try.func32, Try.ntmps32
  go_wp2_with (first
    | (refine wpList_load_row rfl 26 _ rfl _ rfl 26 _ (0, 0) _ ((Own.new _ _ _).alloc _) Try.underlying26 rfl (row26 (d17 _ _ (hl.out))) ?_)
    | (go_at_call 68; ((with_reducible refine (hc.out _).mono ?_); rintro e w1 ⟨rfl, hB1⟩; have hO1 : Own w1 w.heap.size (dcells n ms) 26 := ((Own.new _ _ _).alloc _).below hB1 (by simp <;> omega); have hR1 : Own w1 (w.heap.size + 1) zcells 26 := (Own.at _ _ _ (by simp)).below hB1 (by simp); have hBw : Below w.heap.size w w1 := (((Below.refl w.heap.size w).alloc (Nat.le_refl _) _).alloc (by simp) _).trans (hB1.mono (by simp <;> omega)); clear hB1; have k0 := (hO1.cell 0).trans c0.out)))
  have k0a := fun o => ((hO1.alloc o).cell 0).trans c0.out
  go_region
  clear k0a
  have hz := hBw.size
  have hlt1 := hO1.lt
  have hlt2 := hR1.lt
  obtain ⟨g, hg⟩ : ∃ g, w1.heap.size = g := ⟨_, rfl⟩
  have hOa : Own (w1.alloc (.cells (dcells n zeros) 26)).drew w.heap.size (dcells n ms) 26 := Own.alloc hO1 _
  have hRa : Own (w1.alloc (.cells (dcells n zeros) 26)).drew (w.heap.size + 1) zcells 26 := Own.alloc hR1 _
  have hDa : Own (w1.alloc (.cells (dcells n zeros) 26)).drew g (dcells n zeros) 26 := Own.at _ _ _ hg
  have hBa : Below w.heap.size w (w1.alloc (.cells (dcells n zeros) 26)).drew := (hBw.alloc hBw.size _).drew
  change Exit.then _ _ _ _ (w1.alloc (.cells (dcells n zeros) 26)).drew
  generalize (w1.alloc (.cells (dcells n zeros) 26)).drew = wa at *
  rw [hg] at hlt1 hlt2 hz ⊢
  clear hO1 hR1 hBw k0 hg
  go_wp2
  go_loopw [6] (fun i wr => ∃ k : Nat, k ≤ 2 * n ∧ i = .int .i64 k ∧ Own wr w.heap.size (dcells n ms) 26 ∧ Own wr (w.heap.size + 1) zcells 26 ∧ Own wr g (dcells n (stO (turnF n) ms (pl n) k)) 26 ∧ Below w.heap.size w wr) (fun i _ => (2 * n - intOf i).toNat)
  case atStart => exact ⟨0, by omega, rfl, hOa, hRa, hDa, hBa⟩
  case round =>
    clear hOa hRa hDa hBa
    obtain ⟨k, hk, rfl, hO, hR, hD, hB⟩ := hrel
    have hsl := Lib.hid (stO_len (turnF n) ms (pl n) k)
    by_cases hlt : (k : Int) < 2 * n
    · have pb := pl_lt n k (by omega) hlt
      have mm := hmt.out _ pb.1 pb.2
      obtain ⟨p, hp⟩ : ∃ p, pl n k = p := ⟨_, rfl⟩
      rw [hp] at pb mm
      obtain ⟨m, hm⟩ : ∃ m, mate ms p = m := ⟨_, rfl⟩
      rw [hm] at mm
      obtain ⟨mm0, mm2⟩ := mm
      obtain ⟨pb0, pb2⟩ := pb
      have c1 : wr.cell? ⟨w.heap.size, 1 + p.toNat, none⟩ = some (.int .u8 m) := by rw [hO.cell, dcells_get _ _ _ (by rw [hl.out]; omega), ← hm]; rfl
      have qb := pl_lt n m mm0 mm2
      obtain ⟨q, hq⟩ : ∃ q, pl n m = q := ⟨_, rfl⟩
      rw [hq] at qb
      obtain ⟨qb0, qb2⟩ := qb
      obtain ⟨y1, hy1⟩ : ∃ y1, ((k : Int) + 1) % (2 * n) = y1 := ⟨_, rfl⟩
      obtain ⟨y2, hy2⟩ : ∃ y2, (q + 1) % (2 * n) = y2 := ⟨_, rfl⟩
      have a0 := Int.emod_nonneg ((k : Int) + 1) (show 2 * n ≠ 0 by omega)
      have a2 := Int.emod_lt_of_pos ((k : Int) + 1) (show 0 < 2 * n by omega)
      have b0 := Int.emod_nonneg (q + 1) (show 2 * n ≠ 0 by omega)
      have b2 := Int.emod_lt_of_pos (q + 1) (show 0 < 2 * n by omega)
      rw [hy1] at a0 a2
      rw [hy2] at b0 b2
      have z1 := pl_lt n y1 a0 a2
      have z2 := pl_lt n y2 b0 b2
      obtain ⟨a, ha⟩ : ∃ a, pl n y1 = a := ⟨_, rfl⟩
      obtain ⟨b, hb⟩ : ∃ b, pl n y2 = b := ⟨_, rfl⟩
      rw [ha] at z1
      rw [hb] at z2
      have hst := Lib.hid (show stO (turnF n) ms (pl n) (k + 1) = (stO (turnF n) ms (pl n) k).set a.toNat b by
        rw [stO, hp, hm]
        have e1 : turnF n p = a := by unfold turnF; rw [← hp, pl_pl n k (by omega) hlt, hy1, ha]
        have e2 : turnF n m = b := by unfold turnF; rw [hq, hy2, hb]
        rw [e1, e2])
      have d1 := Lib.hid (fun u => ((placeS_any n k u (by omega) h8 (by omega) (by omega)).mono fun e w' ⟨he, hw⟩ => (⟨by rw [he, hp], hw.symm⟩ : e = Ending.returned (Value.int .i64 p) ∧ u = w')))
      have d2 := Lib.hid (fun u => ((placeS_any n m u (by omega) h8 (by omega) (by omega)).mono fun e w' ⟨he, hw⟩ => (⟨by rw [he, hq], hw.symm⟩ : e = Ending.returned (Value.int .i64 q) ∧ u = w')))
      have d3 := Lib.hid (fun u => ((placeS_any n y1 u (by omega) h8 (by omega) (by omega)).mono fun e w' ⟨he, hw⟩ => (⟨by rw [he, ha], hw⟩ : e = Ending.returned (Value.int .i64 a) ∧ w' = u)))
      have d4 := Lib.hid (fun u => ((placeS_any n y2 u (by omega) h8 (by omega) (by omega)).mono fun e w' ⟨he, hw⟩ => (⟨by rw [he, hb], hw⟩ : e = Ending.returned (Value.int .i64 b) ∧ w' = u)))
      have HY1 := Lib.hid hy1
      have HY2 := Lib.hid hy2
      have p16 : p < 16 := by omega
      clear hp hm hq hy1 hy2 ha hb
      go_wp2_with (first
        | (go_at_call 84; ((with_reducible refine (d1.out _).mono ?_); rintro e w0 ⟨rfl, rfl⟩))
        | (go_at_call 84; ((with_reducible refine (d2.out _).mono ?_); rintro e w0 ⟨rfl, rfl⟩)))
      refine wp_region_still_tail 17 (by kernel_rfl) (by kernel_rfl) ?_
      have hO' : Own { wr with drawn := wr.drawn + 1 } w.heap.size (dcells n ms) 26 := hO
      have hR' : Own { wr with drawn := wr.drawn + 1 } (w.heap.size + 1) zcells 26 := hR
      have hD' : Own { wr with drawn := wr.drawn + 1 } g (dcells n (stO (turnF n) ms (pl n) k)) 26 := hD
      have hB' : Below w.heap.size w { wr with drawn := wr.drawn + 1 } := hB.drew
      clear hO hR hD hB c1 d1 d2
      generalize ({ wr with drawn := wr.drawn + 1 } : World) = wd at *
      have k2 := hD'.cell (1 + a.toNat)
      rw [dcells_get _ _ _ (by rw [hsl.out]; omega)] at k2
      have f2 := hD'.free (1 + a.toNat)
      have hD2 := hD'.set (1 + a.toNat) (.int .u8 b)
      rw [dcells_set, ← hst.out] at hD2
      have hO2 := hO'.other (a := ⟨g, 1 + a.toNat, none⟩) (by simp; omega) (.int .u8 b)
      have hR2 := hR'.other (a := ⟨g, 1 + a.toNat, none⟩) (by simp; omega) (.int .u8 b)
      have hB2 := hB'.setCell (p := ⟨g, 1 + a.toNat, none⟩) (by simp; omega) (.int .u8 b)
      have K1 := Lib.hid hD2
      have K2 := Lib.hid hO2
      have K3 := Lib.hid hR2
      have K4 := Lib.hid hB2
      clear hD2 hO2 hR2 hB2 hD' hO' hR' hB'
      have ha16 : a < 16 := by omega
      have n2 : (2 * n) ≠ 0 := by omega
      have w1 : IntKind.i64.wrap ((k : Int) + 1) = k + 1 := IntWalk.i64_in _ (by omega)
      have w2 : IntKind.i64.wrap (2 * n) = 2 * n := IntWalk.i64_in _ (by omega)
      have w3 : IntKind.i64.wrap (q + 1) = q + 1 := IntWalk.i64_in _ (by omega)
      have t1 : ((k : Int) + 1).tmod (2 * n) = y1 := by rw [Int.tmod_eq_emod_of_nonneg (by omega)]; exact HY1.out
      have t2 : (q + 1).tmod (2 * n) = y2 := by rw [Int.tmod_eq_emod_of_nonneg (by omega)]; exact HY2.out
      have w5 : IntKind.u8.wrap b = b := u8_in b (by omega) (by omega)
      simp only [List.take_succ_cons, List.take_zero, List.drop_succ_cons, List.drop_zero]
      still_step
      still_step
      still_step
      still_step
      still_step
      still_step
      still_call (d3.out wd)
      still_step
      still_step
      still_step
      still_step
      still_step
      still_step
      still_call (d4.out wd)
      still_step
      still_step
      still_step
      refine wpStill_nil ?_
      clear t1 t2 w1 w2 w3 w5
      go_wp2
      go_roundw
      case rel => exact ⟨k + 1, by omega, by go_num, K2.out, K3.out, K1.out, K4.out⟩
      case measure => simp [intOf]; omega
    · have e := Lib.hid (show (2 * n).toNat = k by omega)
      go_wp2_with (first
        | (refine wpList_load_row rfl 26 _ rfl _ rfl 26 _ (0, 0) _ (hD) Try.underlying26 rfl (row26 (d17 _ _ (hsl.out))) ?_)
        | (refine wpList_store_own rfl 26 _ _ rfl _ _ rfl rfl 26 _ (hR) (row26 (d17 _ _ (hsl.out))) (z_eq (d17 _ _ hsl.out)) (dcells_one _ _) ?_; intro w4 hO4 hN4))
      refine bodyPost_ret (v := .tuple #[.agg (dcells n (stO (turnF n) ms (pl n) k)), .int .i64 0]) (results_row_tmp rfl _ _ _ _ _ (0, 0) _ rfl (hO4) Try.underlying26 rfl (row26 (d17 _ _ (hsl.out))) _ rfl) rfl (⟨by rw [e.out], hB.trans (hN4.below.mono (by omega))⟩)
end Go.Proofs.Ytfbocodkelmemaa
