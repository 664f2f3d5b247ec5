/- DiagramOfNumber, and the law. -/
import Derived.Test.YtpjlienelkflhaaAll
import Derived.Test.YtpjlienelkflhaaLawA
namespace Go.Proofs.Ytpjlienelkflhaa
open Go.RowKit Go.Lib
set_option linter.unusedVariables false
set_option linter.unusedSimpArgs false
/-- How many texts there are to go on with. -/
def wy : Nat → Nat → Nat
  | 0, _ => 1
  | f + 1, o => (if o < f + 1 then wy f (o + 1) else 0) + (if 0 < o then wy f (o - 1) else 0)
theorem dts_wy (f : Nat) : ∀ (o : Nat) (t : List UInt8), (dts f o t).length = wy f o := by
  induction f with
  | zero => intro o t; rfl
  | succ f ih =>
    intro o t
    rw [dts_step, wy, List.length_append]
    congr 1
    · split
      · exact ih _ _
      · rfl
    · split
      · exact ih _ _
      · rfl
theorem wy_self (o : Nat) : wy o o = 1 := by
  induction o with
  | zero => rfl
  | succ o ih => rw [wy, if_neg (by omega), if_pos (by omega), Nat.add_sub_cancel, ih]
theorem wy_bd (f : Nat) : ∀ o, wy f o ≤ 2 ^ f := by
  induction f with
  | zero => intro o; exact Nat.le_refl _
  | succ f ih =>
    intro o
    rw [wy, Nat.pow_succ]
    have a := ih (o + 1)
    have b := ih (o - 1)
    split <;> split <;> omega
theorem wy_40 (f o : Nat) (h : f ≤ 40) : wy f o ≤ 1099511627776 := Nat.le_trans (wy_bd f o) (Nat.pow_le_pow_right (by omega) h)
set_option maxRecDepth 100000 in
theorem waysS_0 (o : Nat) (w : World) : Calls Try.prog 29 #[.int .i64 o, .int .i64 0] w fun e w' => e = .returned (.int .i64 1) ∧ w' = w := by
  go_enter Try.func29, Try.ntmps29
  go_wp2
  go_ret
  exact ⟨rfl, rfl⟩
set_option maxRecDepth 100000 in
set_option maxHeartbeats 1000000 in
theorem waysS_any (f : Nat) : ∀ (o r : Nat) (w : World), f = 2 * r + o → f ≤ 40 → Calls Try.prog 29 #[.int .i64 o, .int .i64 r] w fun e w' => e = .returned (.int .i64 (wy f o : Nat)) ∧ w' = w := by
  induction f with
  | zero =>
    intro o r w hf h40
    obtain rfl : o = 0 := by omega
    obtain rfl : r = 0 := by omega
    exact waysS_0 0 w
  | succ f ih =>
    intro o r w hf h40
    cases r with
    | zero =>
      obtain rfl : o = f + 1 := by omega
      rw [wy_self]
      exact waysS_0 (f + 1) w
    | succ r =>
      have e1 : wy (f + 1) o = wy f (o + 1) + (if 0 < o then wy f (o - 1) else 0) := by rw [wy, if_pos (by omega)]
      have b1 := wy_40 f (o + 1) (by omega)
      have b2 := wy_40 f (o - 1) (by omega)
      have i1 := Lib.hid (show ∀ w, Calls Try.prog 29 #[.int .i64 ((o : Int) + 1), .int .i64 (r : Int)] w fun e w' => e = .returned (.int .i64 (wy f (o + 1) : Nat)) ∧ w' = w from fun w => ih (o + 1) r w (by omega) (by omega))
      have r0 : ¬ ((r : Int) + 1 = 0) := by omega
      rw [e1]
      cases o with
      | zero =>
        rw [if_neg (by omega), Nat.add_zero]
        obtain ⟨A, hA⟩ : ∃ A, wy f (0 + 1) = A := ⟨_, rfl⟩
        rw [hA] at i1 b1 ⊢
        have i1 := Lib.hid (show ∀ w, Calls Try.prog 29 #[.int .i64 1, .int .i64 (r : Int)] w fun e w' => e = .returned (.int .i64 (A : Nat)) ∧ w' = w from i1.out)
        clear ih e1 hA
        go_enter Try.func29, Try.ntmps29
        go_wp2_with (first
          | (go_at_call 29; ((with_reducible refine (i1.out _).mono ?_); rintro e w1 ⟨rfl, rfl⟩)))
        go_ret
        exact ⟨rfl, rfl⟩
      | succ o =>
        rw [if_pos (by omega)]
        rw [show o + 1 - 1 = o by omega] at b2 ⊢
        obtain ⟨A, hA⟩ : ∃ A, wy f (o + 1 + 1) = A := ⟨_, rfl⟩
        obtain ⟨C, hC⟩ : ∃ C, wy f o = C := ⟨_, rfl⟩
        have i2 := Lib.hid (show ∀ w, Calls Try.prog 29 #[.int .i64 (o : Int), .int .i64 ((r : Int) + 1)] w fun e w' => e = .returned (.int .i64 (C : Nat)) ∧ w' = w from fun w => by rw [← hC]; exact ih o (r + 1) w (by omega) (by omega))
        rw [hA] at i1 b1 ⊢
        rw [hC] at b2 ⊢
        have i1 := Lib.hid (show ∀ w, Calls Try.prog 29 #[.int .i64 ((o : Int) + 1 + 1), .int .i64 (r : Int)] w fun e w' => e = .returned (.int .i64 (A : Nat)) ∧ w' = w from by have := i1.out; simpa using this)
        clear ih e1 hA hC
        go_enter Try.func29, Try.ntmps29
        go_wp2_with (first
          | (go_at_call 29; ((with_reducible refine (i1.out _).mono ?_); rintro e w1 ⟨rfl, rfl⟩))
          | (go_at_call 29; ((with_reducible refine (i2.out _).mono ?_); rintro e w2 ⟨rfl, rfl⟩)))
        go_ret
        exact ⟨by go_num, rfl⟩
theorem wy_allD (n : Nat) : (allD n).length = wy (2 * n) 0 := by unfold allD; rw [List.length_map, dts_wy]
set_option maxRecDepth 100000 in
set_option maxHeartbeats 1000000 in
theorem donI_ok (n K : Nat) (h1 : 1 ≤ n) (h8 : n ≤ 8) (hK : K < wy (2 * n) 0) (w : World) :
    Calls Try.prog 14 #[.int .i64 n, .int .i64 K] w fun e w' => e = .returned (.tuple #[.agg (dcells ((allD n).getD K (0, zeros)).1 ((allD n).getD K (0, zeros)).2), .int .i64 0]) ∧ Below w.heap.size w w' := by
  have hld := Lib.hid (fun w => ldI_any n h1 h8 w)
  have h16 := Lib.hid (allD_16 n)
  have hpos := Lib.hid (allD_pos n h1 h8)
  have hlen := allD_len n h1 h8
  have hl := Lib.hid (allD_get n h1 h8 K (by rw [wy_allD]; exact hK)).len
  rw [← wy_allD] at hK
  unfold LdPost at hld
  obtain ⟨ds, hds⟩ : ∃ ds, allD n = ds := ⟨_, rfl⟩
  rw [hds] at hld h16 hpos hl hlen hK ⊢
  obtain ⟨⟨dn, dm⟩, hd⟩ : ∃ d, ds.getD K (0, zeros) = d := ⟨_, rfl⟩
  have hd' := Lib.hid hd
  rw [hd] at hl ⊢
  have kI : (K : Int) < (ds.length : Int) := by omega
  have kJ : ¬ ((ds.length : Int) ≤ (K : Int)) := by omega
  have h17 := Lib.hid (show (dcells dn dm).toList.length = 17 from dl17 hl.out)
  clear hds hd
  go_enter Try.func14, Try.ntmps14
  go_wp2_with (first
    | (go_at_call 31; ((with_reducible refine (isSize_t _ _ (by omega) (by omega)).mono ?_); rintro e w0 ⟨rfl, rfl⟩))
    | (go_at_call 28; ((with_reducible refine (hld.out _).mono ?_); rintro e w1 ⟨v1, rfl, hR1, hB1⟩); obtain ⟨g, cap, rfl, hg, hgl⟩ := hR1.at h16.out hpos.out; have hZ1 : Own w1 w.heap.size zcells 30 := (Own.new w _ _).below hB1 (by simp); have b1 : Below w.heap.size w w1 := ((Below.refl _ w).alloc (Nat.le_refl _) _).trans (hB1.mono (by simp)); have hrd := Lib.hid (hR1.read h16.out K hK); rw [hd'.out] at hrd)
    | (refine wpList_load_at rfl 30 (.tmp 24) rfl ⟨g, K * 17, none⟩ rfl (dcells dn dm).toList _ hrd.out Try.underlying30 rfl (by rw [h17.out]; kernel_rfl) ?_)
    | (refine wpList_store_own rfl 30 _ _ rfl _ _ rfl rfl 30 _ (hZ1) (row26 (d17 _ _ (hl.out))) (z_eq (d17 _ _ hl.out)) (dcells_one _ _) ?_; intro w4 hO4 hN4))
  refine bodyPost_ret (v := .tuple #[.agg (dcells dn dm), .int .i64 0]) (results_row_tmp rfl _ _ _ _ _ (0, 0) _ rfl (hO4) Try.underlying30 rfl (row26 (d17 _ _ (hl.out))) _ rfl) rfl (⟨rfl, b1.trans (hN4.below.mono (Nat.le_refl _))⟩)
set_option maxRecDepth 100000 in
set_option maxHeartbeats 1000000 in
theorem donI_far (n : Nat) (k : Int) (h1 : 1 ≤ n) (h8 : n ≤ 8) (hk : (wy (2 * n) 0 : Int) ≤ k) (w : World) :
    Calls Try.prog 14 #[.int .i64 n, .int .i64 k] w fun e w' => e = .returned (.tuple #[.agg zcells, .int .i64 2]) ∧ Below w.heap.size w w' := by
  have hld := Lib.hid (fun w => ldI_any n h1 h8 w)
  have h16 := Lib.hid (allD_16 n)
  have hpos := Lib.hid (allD_pos n h1 h8)
  have hlen := allD_len n h1 h8
  rw [← wy_allD] at hk
  unfold LdPost at hld
  obtain ⟨ds, hds⟩ : ∃ ds, allD n = ds := ⟨_, rfl⟩
  rw [hds] at hld h16 hpos hlen hk
  have k0 : ¬ (k < 0) := by omega
  clear hds
  go_enter Try.func14, Try.ntmps14
  go_wp2_with (first
    | (go_at_call 31; ((with_reducible refine (isSize_t _ _ (by omega) (by omega)).mono ?_); rintro e w0 ⟨rfl, rfl⟩))
    | (go_at_call 28; ((with_reducible refine (hld.out _).mono ?_); rintro e w1 ⟨v1, rfl, hR1, hB1⟩); obtain ⟨g, cap, rfl, hg, hgl⟩ := hR1.at h16.out hpos.out; have hZ1 : Own w1 w.heap.size zcells 30 := (Own.new w _ _).below hB1 (by simp); have b1 : Below w.heap.size w w1 := ((Below.refl _ w).alloc (Nat.le_refl _) _).trans (hB1.mono (by simp)))
    | (refine wpList_build_of rfl 30 #[] rfl zcells ?_ ?_; (exact built26nil))
    | (refine wpList_store_own rfl 30 _ _ rfl _ _ rfl rfl 30 _ (hZ1) (row26 (d17 _ _ (zlen))) (rfl) (dcells_one _ _) ?_; intro w4 hO4 hN4))
  refine bodyPost_ret (v := .tuple #[.agg (zcells), .int .i64 2]) (results_row_tmp rfl _ _ _ _ _ (0, 0) _ rfl (hO4) Try.underlying30 rfl (row26 (d17 _ _ (zlen))) _ rfl) rfl (⟨rfl, b1.trans (hN4.below.mono (Nat.le_refl _))⟩)
set_option maxRecDepth 100000 in
theorem donI_bad (n k : Int) (h : n < 1 ∨ 8 < n ∨ (1 ≤ n ∧ n ≤ 8 ∧ k < 0)) (w : World) :
    Calls Try.prog 14 #[.int .i64 n, .int .i64 k] w fun e w' => e = .returned (.tuple #[.agg zcells, .int .i64 2]) ∧ Below w.heap.size w w' := by
  rcases h with h | h | ⟨ha, hb, h⟩
  all_goals
    go_enter Try.func14, Try.ntmps14
    go_wp2_with (first
      | (go_at_call 31; ((with_reducible refine (isSize_t _ _ (by omega) (by omega)).mono ?_); rintro e w0 ⟨rfl, rfl⟩)) | (go_at_call 31; ((with_reducible refine (isSize_f _ _ (by omega)).mono ?_); rintro e w0 ⟨rfl, rfl⟩))
      | (refine wpList_build_of rfl 30 #[] rfl zcells ?_ ?_; (exact built26nil)) | (refine wpList_store_own rfl 30 _ _ rfl _ _ rfl rfl 30 _ (Own.new w _ _) (row26 (d17 _ _ (zlen))) (rfl) (dcells_one _ _) ?_; intro w4 hO4 hN4))
    refine bodyPost_ret (v := .tuple #[.agg (zcells), .int .i64 2]) (results_row_tmp rfl _ _ _ _ _ (0, 0) _ rfl (hO4) Try.underlying30 rfl (row26 (d17 _ _ (zlen))) _ rfl) rfl (⟨rfl, ?_⟩)
    refine Below.trans ?_ (hN4.below.mono (Nat.le_refl _))
    exact (Below.refl _ _).alloc (Nat.le_refl _) _
theorem dts_cons (f o r : Nat) (t : List UInt8) (h : f + 1 = 2 * r + o) : dts (f + 1) o t = (if 0 < r then dts f (o + 1) (t ++ [40]) else []) ++ (if 0 < o then dts f (o - 1) (t ++ [41]) else []) := by
  rw [dts_step]
  congr 1
  by_cases c : 0 < r
  · rw [if_pos c, if_pos (by omega)]
  · rw [if_neg c, if_neg (by omega)]
/-- How many go on with a bracket that opens. -/
def ahd (f o r : Nat) : Nat := if 0 < r then wy f (o + 1) else 0
theorem go_open {f o r K : Nat} {t X : List UInt8} (h : f + 1 = 2 * r + o) (hX : (dts (f + 1) o t)[K]? = some X) (hK : K < ahd f o r) : 0 < r ∧ (dts f (o + 1) (t ++ [40]))[K]? = some X := by
  unfold ahd at hK
  by_cases c : 0 < r
  · rw [if_pos c] at hK
    rw [dts_cons f o r t h, if_pos c, List.getElem?_append_left (by rw [dts_wy]; exact hK)] at hX
    exact ⟨c, hX⟩
  · rw [if_neg c] at hK; omega
theorem go_close {f o r K : Nat} {t X : List UInt8} (h : f + 1 = 2 * r + o) (hX : (dts (f + 1) o t)[K]? = some X) (hK : ¬ K < ahd f o r) : 0 < o ∧ (dts f (o - 1) (t ++ [41]))[K - ahd f o r]? = some X := by
  have hl : (if 0 < r then dts f (o + 1) (t ++ [40]) else []).length = ahd f o r := by
    unfold ahd
    split
    · exact dts_wy _ _ _
    · rfl
  rw [dts_cons f o r t h, List.getElem?_append_right (by omega), hl] at hX
  by_cases c : 0 < o
  · rw [if_pos c] at hX; exact ⟨c, hX⟩
  · rw [if_neg c] at hX; simp at hX
theorem allD_at (n K : Nat) (X : List UInt8) (h : (dts (2 * n) 0 [])[K]? = some X) : (allD n).getD K (0, zeros) = pD X := by
  unfold allD
  rw [List.getD_eq_getElem?_getD, List.getElem?_map, h]; rfl
set_option maxRecDepth 100000 in
set_option maxHeartbeats 2000000 in
theorem donS_ok (n K0 : Nat) (h1 : 1 ≤ n) (h8 : n ≤ 8) (hK0 : K0 < wy (2 * n) 0) (w : World) :
    Calls Try.prog 13 #[.int .i64 n, .int .i64 K0] w fun e w' => e = .returned (.tuple #[.agg (dcells ((allD n).getD K0 (0, zeros)).1 ((allD n).getD K0 (0, zeros)).2), .int .i64 0]) ∧ Below w.heap.size w w' := by
  obtain ⟨X, hX⟩ : ∃ X, (dts (2 * n) 0 [])[K0]? = some X := ⟨_, List.getElem?_eq_getElem (by rw [dts_wy]; exact hK0)⟩
  have hXl : X.length = 2 * n := by have := dts_mem _ _ _ _ (List.mem_of_getElem? hX); simpa using this
  rw [allD_at n K0 X hX]
  have hws := Lib.hid (show ∀ w, Calls Try.prog 29 #[.int .i64 0, .int .i64 n] w fun e w' => e = .returned (.int .i64 (wy (2 * n) 0 : Nat)) ∧ w' = w from fun w => waysS_any (2 * n) 0 n w (by omega) (by omega))
  have hwb := wy_40 (2 * n) 0 (by omega)
  have hmsl := Lib.hid (pD_len X)
  have hSs : (bsv X).size ≤ maxLen := by rw [bsv_size, hXl]; unfold maxLen; omega
  have hd := Lib.hid (fun w => (readS_any (bsv X) w hSs).mono fun e w' (hd : DotPost (bsv X) w e w') => show (∃ bb, e = .returned (.tuple #[.agg (dcells (pD X).1 (pD X).2), .bool bb])) ∧ Below w.heap.size w w' from ⟨by rw [hd.1, show (bsv X).data.toList = X from rfl]; unfold pD; cases parse X with | none => exact ⟨false, rfl⟩ | some q => exact ⟨true, rfl⟩, hd.2⟩)
  have hX' := Lib.hid hX
  obtain ⟨⟨pn, pm⟩, hpq⟩ : ∃ x, pD X = x := ⟨_, rfl⟩
  rw [hpq] at hd hmsl ⊢
  have kI : (K0 : Int) ≤ (wy (2 * n) 0 : Nat) - 1 := by omega
  have kx : max (n : Int) 1 = (n : Int) := by omega
  have kn : min (n : Int) 8 = (n : Int) := by omega
  obtain ⟨Wn, hWn⟩ : ∃ Wn, wy (2 * n) 0 = Wn := ⟨_, rfl⟩
  rw [hWn] at hws hwb kI
  clear hX hSs hpq hWn
  go_enter Try.func13, Try.ntmps13
  go_wp2_with (first
    | (go_at_call 26; ((with_reducible refine (inS_t (n : Int) 1 8 _ (by omega) (by omega)).mono ?_); rintro e w0 ⟨rfl, rfl⟩))
    | (go_at_call 26; ((with_reducible refine (inS_t (K0 : Int) 0 _ _ (by omega) (by omega)).mono ?_); rintro e w0 ⟨rfl, rfl⟩))
    | (go_at_call 29; ((with_reducible refine (hws.out _).mono ?_); rintro e w0 ⟨rfl, rfl⟩)))
  go_loopw [1, 6, 7, 8] (fun k t' o' r' wr => ∃ (t : List UInt8) (o r K : Nat), k = .int .i64 K ∧ t' = .string (bsv t) ∧ o' = .int .i64 o ∧ r' = .int .i64 r ∧ 2 * r + o + t.length = 2 * n ∧ o + r ≤ n ∧ Hid ((dts (2 * r + o) o t)[K]? = some X) ∧ K ≤ 1099511627776 ∧ Own wr w.heap.size zcells 30 ∧ Below w.heap.size w wr) (fun _ _ o r _ => (2 * intOf r + intOf o).toNat)
  case atStart => exact ⟨[], 0, n, K0, rfl, rfl, rfl, rfl, by simp, by omega, hX', by omega, Own.new _ _ _, (Below.refl _ _).alloc (Nat.le_refl _) _⟩
  case round =>
    clear hX' kI kx kn hws hwb
    obtain ⟨t, o, r, K, rfl, rfl, rfl, rfl, hlen, hor, hat, hKb, hO, hB⟩ := hrel
    have hts : ¬ 9223372036854775807 < (bsv t).size + 1 := by rw [bsv_size]; omega
    have hP := hat.out
    cases r with
    | zero =>
      cases o with
      | zero =>
        have e : t = X := by
          have : ([t] : List (List UInt8))[K]? = some X := hP
          cases K with
          | zero => simpa using this
          | succ K => simp at this
        subst e
        obtain ⟨S, hS⟩ : ∃ S, bsv t = S := ⟨_, rfl⟩
        rw [hS] at hd hts ⊢
        clear hP hat hS
        go_wp2_with (first
          | (go_at_call 30; ((with_reducible refine (hd.out _).mono ?_); rintro e w1 ⟨⟨bb, rfl⟩, hB1⟩); have hO1 := hO.below hB1 hO.lt; have b1 := hB.trans (hB1.mono hB.size))
          | (refine wpList_store_own rfl 30 _ _ rfl _ _ rfl rfl 30 _ (Own.new w1 _ _) (row26 (d17 _ _ (hmsl.out))) (z_eq (d17 _ _ hmsl.out)) (dcells_one _ _) ?_; intro w2 hO2 hN2)
          | (refine wpList_load_row rfl 30 _ rfl _ rfl 30 _ (0, 0) _ (hO2) Try.underlying30 rfl (row26 (d17 _ _ (hmsl.out))) ?_)
          | (refine wpList_store_own rfl 30 _ _ rfl _ _ rfl rfl 30 _ ((hO1.alloc _).only hN2 (Nat.ne_of_lt hO1.lt)) (row26 (d17 _ _ (hmsl.out))) (z_eq (d17 _ _ hmsl.out)) (dcells_one _ _) ?_; intro w3 hO3 hN3))
        have b2 : Below w.heap.size w w2 := (b1.alloc b1.size _).trans (hN2.below.mono b1.size)
        refine bodyPost_ret (v := .tuple #[.agg (dcells pn pm), .int .i64 0]) (results_row_tmp rfl _ _ _ _ _ (0, 0) _ rfl (hO3) Try.underlying30 rfl (row26 (d17 _ _ (hmsl.out))) _ rfl) rfl (⟨rfl, b2.trans (hN3.below.mono (Nat.le_refl _))⟩)
      | succ o =>
        obtain ⟨_, hC⟩ := go_close (f := o) (o := o + 1) (r := 0) (by omega) (by simpa using hP) (by unfold ahd; simp)
        have hC' := Lib.hid (show (dts (2 * 0 + o) o (t ++ [41]))[K]? = some X by simpa [ahd] using hC)
        have hsv := Lib.hid (bsv_app t 41)
        have K0' : ¬ ((K : Int) < 0) := by omega
        clear hP hat hC
        go_wp2
        go_roundw
        case rel => exact ⟨t ++ [41], o, 0, K, by go_num, by rw [← hsv.out], by go_num, rfl, by simp; omega, by omega, hC', hKb, hO, hB⟩
        case measure => simp [intOf] <;> omega
    | succ r =>
      have hwy := Lib.hid (show ∀ w, Calls Try.prog 29 #[.int .i64 ((o : Int) + 1), .int .i64 (r : Int)] w fun e w' => e = .returned (.int .i64 (wy (2 * r + o + 1) (o + 1) : Nat)) ∧ w' = w from fun w => waysS_any (2 * r + o + 1) (o + 1) r w (by omega) (by omega))
      have hah : ahd (2 * r + o + 1) o (r + 1) = wy (2 * r + o + 1) (o + 1) := by unfold ahd; rw [if_pos (by omega)]
      have hab := wy_40 (2 * r + o + 1) (o + 1) (by omega)
      rw [show 2 * (r + 1) + o = (2 * r + o + 1) + 1 by omega] at hP
      by_cases hlt : K < wy (2 * r + o + 1) (o + 1)
      · obtain ⟨_, hC⟩ := go_open (f := 2 * r + o + 1) (o := o) (r := r + 1) (by omega) hP (by rw [hah]; exact hlt)
        have hC' := Lib.hid (show (dts (2 * r + (o + 1)) (o + 1) (t ++ [40]))[K]? = some X from hC)
        obtain ⟨A, hA⟩ : ∃ A, wy (2 * r + o + 1) (o + 1) = A := ⟨_, rfl⟩
        rw [hA] at hwy hlt hab
        have ltI : (K : Int) < (A : Int) := by omega
        have hsv := Lib.hid (bsv_app t 40)
        clear hP hat hC hah hA
        cases o with
        | zero =>
          have hwy := Lib.hid (show ∀ w, Calls Try.prog 29 #[.int .i64 1, .int .i64 (r : Int)] w fun e w' => e = .returned (.int .i64 (A : Nat)) ∧ w' = w from by have := hwy.out; simpa using this)
          go_wp2_with (first
            | (go_at_call 29; ((with_reducible refine (hwy.out _).mono ?_); rintro e w1 ⟨rfl, rfl⟩)))
          go_roundw
          case rel => exact ⟨t ++ [40], 0 + 1, r, K, rfl, by rw [← hsv.out], by go_num, by go_num, by simp; omega, by omega, hC', hKb, hO, hB⟩
          case measure => simp [intOf] <;> omega
        | succ o =>
          have hwy := Lib.hid (show ∀ w, Calls Try.prog 29 #[.int .i64 ((o : Int) + 1 + 1), .int .i64 (r : Int)] w fun e w' => e = .returned (.int .i64 (A : Nat)) ∧ w' = w from by have := hwy.out; simpa using this)
          go_wp2_with (first
            | (go_at_call 29; ((with_reducible refine (hwy.out _).mono ?_); rintro e w1 ⟨rfl, rfl⟩)))
          go_roundw
          case rel => exact ⟨t ++ [40], o + 1 + 1, r, K, rfl, by rw [← hsv.out], by go_num, by go_num, by simp; omega, by omega, hC', hKb, hO, hB⟩
          case measure => simp [intOf] <;> omega
      · obtain ⟨ho, hC⟩ := go_close (f := 2 * r + o + 1) (o := o) (r := r + 1) (by omega) hP (by rw [hah]; exact hlt)
        rw [hah] at hC
        obtain ⟨o', rfl⟩ : ∃ o', o = o' + 1 := ⟨o - 1, by omega⟩
        obtain ⟨A, hA⟩ : ∃ A, wy (2 * r + (o' + 1) + 1) (o' + 1 + 1) = A := ⟨_, rfl⟩
        rw [hA] at hwy hlt hab hC
        have hC' := Lib.hid (show (dts (2 * (r + 1) + o') o' (t ++ [41]))[K - A]? = some X by rw [show 2 * (r + 1) + o' = 2 * r + (o' + 1) + 1 by omega]; exact hC)
        have ltI : ¬ ((K : Int) < (A : Int)) := by omega
        have hwy := Lib.hid (show ∀ w, Calls Try.prog 29 #[.int .i64 ((o' : Int) + 1 + 1), .int .i64 (r : Int)] w fun e w' => e = .returned (.int .i64 (A : Nat)) ∧ w' = w from by have := hwy.out; simpa using this)
        have hsv := Lib.hid (bsv_app t 41)
        clear hP hat hC hah hA
        go_wp2_with (first
          | (go_at_call 29; ((with_reducible refine (hwy.out _).mono ?_); rintro e w1 ⟨rfl, rfl⟩)))
        go_roundw
        case rel => exact ⟨t ++ [41], o', r + 1, K - A, by go_num, by rw [← hsv.out], by go_num, by go_num, by simp; omega, by omega, hC', by omega, hO, hB⟩
        case measure => simp [intOf] <;> omega
set_option maxRecDepth 100000 in
set_option maxHeartbeats 1000000 in
theorem donS_far (n : Nat) (k : Int) (h1 : 1 ≤ n) (h8 : n ≤ 8) (hk : k < 0 ∨ (wy (2 * n) 0 : Int) - 1 < k) (w : World) :
    Calls Try.prog 13 #[.int .i64 n, .int .i64 k] w fun e w' => e = .returned (.tuple #[.agg zcells, .int .i64 2]) ∧ Below w.heap.size w w' := by
  have hws := Lib.hid (show ∀ w, Calls Try.prog 29 #[.int .i64 0, .int .i64 n] w fun e w' => e = .returned (.int .i64 (wy (2 * n) 0 : Nat)) ∧ w' = w from fun w => waysS_any (2 * n) 0 n w (by omega) (by omega))
  have hwb := wy_40 (2 * n) 0 (by omega)
  have kx : max (n : Int) 1 = (n : Int) := by omega
  have kn : min (n : Int) 8 = (n : Int) := by omega
  obtain ⟨Wn, hWn⟩ : ∃ Wn, wy (2 * n) 0 = Wn := ⟨_, rfl⟩
  rw [hWn] at hws hwb hk
  have hkk := Lib.hid hk
  clear hWn hk
  go_enter Try.func13, Try.ntmps13
  go_wp2_with (first
    | (go_at_call 26; ((with_reducible refine (inS_t (n : Int) 1 8 _ (by omega) (by omega)).mono ?_); rintro e w0 ⟨rfl, rfl⟩))
    | (go_at_call 26; ((with_reducible refine (inS_f k 0 _ _ hkk.out).mono ?_); rintro e w0 ⟨rfl, rfl⟩))
    | (go_at_call 29; ((with_reducible refine (hws.out _).mono ?_); rintro e w0 ⟨rfl, rfl⟩))
    | (refine wpList_build_of rfl 30 #[] rfl zcells ?_ ?_; (exact built26nil)) | (refine wpList_store_own rfl 30 _ _ rfl _ _ rfl rfl 30 _ (Own.new w _ _) (row26 (d17 _ _ (zlen))) (rfl) (dcells_one _ _) ?_; intro w4 hO4 hN4))
  refine bodyPost_ret (v := .tuple #[.agg (zcells), .int .i64 2]) (results_row_tmp rfl _ _ _ _ _ (0, 0) _ rfl (hO4) Try.underlying30 rfl (row26 (d17 _ _ (zlen))) _ rfl) rfl (⟨rfl, ?_⟩)
  refine Below.trans ?_ (hN4.below.mono (Nat.le_refl _))
  exact (Below.refl _ _).alloc (Nat.le_refl _) _
set_option maxRecDepth 100000 in
theorem donS_bad (n k : Int) (h : n < 1 ∨ 8 < n) (w : World) :
    Calls Try.prog 13 #[.int .i64 n, .int .i64 k] w fun e w' => e = .returned (.tuple #[.agg zcells, .int .i64 2]) ∧ Below w.heap.size w w' := by
  have hh := Lib.hid h
  clear h
  go_enter Try.func13, Try.ntmps13
  go_wp2_with (first
    | (go_at_call 26; ((with_reducible refine (inS_f n 1 8 _ hh.out).mono ?_); rintro e w0 ⟨rfl, rfl⟩))
    | (refine wpList_build_of rfl 30 #[] rfl zcells ?_ ?_; (exact built26nil)) | (refine wpList_store_own rfl 30 _ _ rfl _ _ rfl rfl 30 _ (Own.new w _ _) (row26 (d17 _ _ (zlen))) (rfl) (dcells_one _ _) ?_; intro w4 hO4 hN4))
  refine bodyPost_ret (v := .tuple #[.agg (zcells), .int .i64 2]) (results_row_tmp rfl _ _ _ _ _ (0, 0) _ rfl (hO4) Try.underlying30 rfl (row26 (d17 _ _ (zlen))) _ rfl) rfl (⟨rfl, ?_⟩)
  refine Below.trans ?_ (hN4.below.mono (Nat.le_refl _))
  exact (Below.refl _ _).alloc (Nat.le_refl _) _
set_option maxRecDepth 100000 in
theorem DiagramOfNumber_walk (n k : Int) (w : World) (m c : Int) (ms : List Int) (hl : ms.length = 16)
    (hS : ∀ w, Calls Try.prog 13 #[.int .i64 n, .int .i64 k] w fun e w' => e = .returned (.tuple #[.agg (dcells m ms), .int .i64 c]) ∧ Below w.heap.size w w')
    (hI : ∀ w, Calls Try.prog 14 #[.int .i64 n, .int .i64 k] w fun e w' => e = .returned (.tuple #[.agg (dcells m ms), .int .i64 c]) ∧ Below w.heap.size w w') :
    Calls Try.prog 4 #[.int .i64 n, .int .i64 k] w fun e w' => e = .returned (.bool true) ∧ Below w.heap.size w w' := by
  have hh := Lib.hid hl
  have hS' := Lib.hid hS
  have hI' := Lib.hid hI
  clear hl hS hI
  go_enter Try.func4, Try.ntmps4
  go_wp2_with (first
    | (go_at_call 13; ((with_reducible refine (hS'.out _).mono ?_); rintro e w1 ⟨rfl, hB1⟩))
    | (go_at_call 14; ((with_reducible refine (hI'.out _).mono ?_); rintro e w3 ⟨rfl, hB3⟩))
    | (refine wpList_load_row rfl 30 _ rfl _ rfl 30 _ (0, 0) _ (hO4) Try.underlying30 rfl (row26 (d17 _ _ (hh.out))) ?_)
    | (refine wpList_load_row rfl 30 _ rfl _ rfl 30 _ (0, 0) _ (((hO2.below hB3 hO2.lt).alloc _).only hN4 (Nat.ne_of_lt (Nat.lt_of_lt_of_le hO2.lt hB3.size))) Try.underlying30 rfl (row26 (d17 _ _ (hh.out))) ?_)
    | (go_at_call 15; refine (eqD_same m ms hh.out _).mono ?_; rintro e w5 ⟨rfl, hB5⟩)
    | (refine wpList_store_own rfl 30 _ _ rfl _ _ rfl rfl 30 _ (Own.new w3 _ _) (row26 (d17 _ _ (hh.out))) (z_eq (d17 _ _ hh.out)) (dcells_one _ _) ?_; intro w4 hO4 hN4)
    | (refine wpList_store_own rfl 30 _ _ rfl _ _ rfl rfl 30 _ (Own.new w1 _ _) (row26 (d17 _ _ (hh.out))) (z_eq (d17 _ _ hh.out)) (dcells_one _ _) ?_; intro w2 hO2 hN2))
  go_ret
  refine ⟨rfl, ?_⟩
  have b2 : Below w.heap.size w w2 := (hB1.alloc hB1.size _).trans (hN2.below.mono hB1.size)
  have b3 : Below w.heap.size w w3 := b2.trans (hB3.mono b2.size)
  have b4 : Below w.heap.size w w4 := (b3.alloc b3.size _).trans (hN4.below.mono b3.size)
  exact b4.trans (hB5.mono b4.size)

theorem don_law (n k : Int) (w : World) : Calls Try.prog 4 #[.int .i64 n, .int .i64 k] w fun e w' => e = .returned (.bool true) ∧ Below w.heap.size w w' := by
  by_cases h : 1 ≤ n ∧ n ≤ 8
  · obtain ⟨h1, h8⟩ := h
    obtain ⟨N, rfl⟩ : ∃ N : Nat, n = N := ⟨n.toNat, by omega⟩
    by_cases hk : 0 ≤ k ∧ k < wy (2 * N) 0
    · obtain ⟨K, rfl⟩ : ∃ K : Nat, k = K := ⟨k.toNat, by omega⟩
      exact DiagramOfNumber_walk N K w _ 0 _ (allD_get N (by omega) (by omega) K (by rw [wy_allD]; omega)).len (fun w => donS_ok N K (by omega) (by omega) (by omega) w) (fun w => donI_ok N K (by omega) (by omega) (by omega) w)
    · refine DiagramOfNumber_walk N k w 0 2 _ zlen (fun w => donS_far N k (by omega) (by omega) (by omega) w) (fun w => ?_)
      by_cases h0 : k < 0
      · exact donI_bad N k (by omega) w
      · exact donI_far N k (by omega) (by omega) (by omega) w
  · exact DiagramOfNumber_walk n k w 0 2 _ zlen (fun w => donS_bad n k (by omega) w) (fun w => donI_bad n k (by omega) w)
end Go.Proofs.Ytpjlienelkflhaa
