/- Which partitions are planar: the model's reading. -/
import Derived.Test.YthjgcakpimbcbaaPla
import Derived.Test.YthjgcakpimbcbaaDiaA
import Derived.Lib.QuietBelow
import Derived.BigQuiet
namespace Go.Proofs.Ythjgcakpimbcbaa
open Go.RowKit Go.BigFrame
set_option linter.unusedVariables false
theorem loadVar_at {P : Program} (ty : TypeId) (ad : Addr) (cs : List Value) (d : TypeDesc) (hu : P.underlying ty = some d) (hd : d.isRow = true) (hi : (P.info? ty).map (·.size) = some cs.length) (w : World) (hc : ∀ j v, cs[j]? = some v → w.cell? (ad.add j) = some v) :
    (loadVar ty ad).run P w = .ok (.agg cs.toArray) w := by
  have hl : (loadCells ad cs.length).run P w = .ok cs.toArray w := run_loadCells_list (P := P) w ad cs hc
  cases hq : P.info? ty with
  | none => simp [hq] at hi
  | some i =>
    have hs : i.size = cs.length := by simpa [hq] using hi
    have hagg : (isAgg ty).run P w = .ok true w := by
      unfold isAgg
      rw [Sem.run_bind, run_underlying hu w]
      cases d <;> simp_all
    simp [loadVar, Sem.run_bind, hagg, sizeOf, typeInfo, hq, hs, hl]
theorem quiet_ld {P : Program} {C : World → Prop} {a : Act} {o : Oper} {K : Act → Prop} (ty : TypeId) (x : Operand) (ho : o.op = .load ty x)
    (ad : Addr) (hx : a.eval x = .pointer (some ad)) (v : Value) (hv : ∀ w, C w → (loadVar ty ad).run P w = .ok v w) (h : K (a.put o.dst v)) : o.quiet P a C K := by
  refine ⟨v, fun w hc => ?_, h⟩
  unfold Oper.quietAt execOp
  simp only [ho, hx, Instr.loadAt, Instr.sureAddr, Sem.run_bind, Sem.run_pure, Result.andThen_ok, hv w hc]
  exact ⟨rfl, rfl⟩
theorem dl9 {n : Int} {ms : List Int} (h : ms.length = 8) : (dcells n ms).toList.length = 9 := by simp [dcells, h]
theorem loadP_grown (n : Int) (ms : List Int) (hl : ms.length = 8) (b : Nat) (w : World) (ho : Own w b (dcells n ms) 38) :
    ∀ d os, (loadVar 38 ⟨b, 0, none⟩).run Try.prog (Sort.grow (redrawn w d) os) = .ok (.agg (dcells n ms)) (Sort.grow (redrawn w d) os) := fun d os => by
  have := loadVar_at (P := Try.prog) 38 ⟨b, 0, none⟩ (dcells n ms).toList _ Try.underlying38 rfl (by rw [dl9 hl]; kernel_rfl) (Sort.grow (redrawn w d) os) (fun j v h => cell_regrown (show w.cell? ((⟨b, 0, none⟩ : Addr).add j) = some v by rw [Addr.add_mid, Nat.zero_add]; exact (ho.cell j).trans (by rw [← h]; simp)) d os)
  simpa using this
theorem arZ_get (N : Nat) (ms : List Int) (h1 : 1 ≤ N) (h4 : N ≤ 4) (k : Nat) (hk : k ≤ 2 * N) (j : Nat) (hj : j < 2 * N) :
    (arZ N ms N k).getD (pl N j).toNat 0 = if j < k then ms.getD j 0 else 0 := by
  induction k with
  | zero => rw [arZ, List.getD_eq_getElem?_getD, List.getElem?_replicate]; split <;> simp
  | succ k ih =>
    have hp := pl_lt N k (by omega) (by omega)
    have hq := pl_lt N j (by omega) (by omega)
    rw [arZ, List.getD_eq_getElem?_getD, List.getElem?_set]
    by_cases e : j = k
    · subst e
      rw [if_pos rfl, if_pos (by rw [arZ_len]; omega), if_pos (by omega)]
      rfl
    · have hne : ¬ (pl N k).toNat = (pl N j).toNat := fun h => by
        have h2 : pl N k = pl N j := by omega
        have h3 : pl N (pl N k) = pl N (pl N j) := by rw [h2]
        rw [pl_pl _ _ (by omega) (by omega), pl_pl _ _ (by omega) (by omega)] at h3
        omega
      rw [if_neg hne, ← List.getD_eq_getElem?_getD, ih (by omega)]
      by_cases h : j < k
      · rw [if_pos h, if_pos (by omega)]
      · rw [if_neg h, if_neg (by omega)]
theorem arZ_at (N : Nat) (ms : List Int) (h1 : 1 ≤ N) (h4 : N ≤ 4) (j : Nat) (hj : j < 2 * N) : ms.getD (pl N j).toNat 0 = (arZ N ms N (2 * N)).getD j 0 := by
  have hq := pl_lt N j (by omega) (by omega)
  have h := arZ_get N ms h1 h4 (2 * N) (Nat.le_refl _) (pl N j).toNat (by omega)
  rw [if_pos (by omega), show ((pl N j).toNat : Int) = pl N j by omega, pl_pl _ _ (by omega) (by omega)] at h
  simpa using h.symm
set_option maxRecDepth 100000 in
theorem atS_any (N : Nat) (ms : List Int) (hms : ms.length = 8) (h1 : 1 ≤ N) (h4 : N ≤ 4) (k : Nat) (hk : k < 2 * N) (w : World) :
    Calls Try.prog 35 #[.agg (dcells N ms), .int .i64 k] w fun e w' => e = .returned (.int .u8 ((arZ N ms N (2 * N)).getD k 0)) ∧ Below w.heap.size w w' := by
  have hp := pl_lt N k (by omega) (by omega)
  have hx := arZ_at N ms h1 h4 k hk
  have hps := Lib.hid (fun w => placeS_any N k w (by omega) (by omega) (by omega) (by omega))
  have c0 := (Own.new w (dcells N ms) 38).cell 0
  rw [dcells_zero] at c0
  have c1 := (Own.new w (dcells N ms) 38).cell (1 + (pl N k).toNat)
  rw [dcells_get _ _ _ (by rw [hms]; omega), hx] at c1
  generalize (arZ N ms N (2 * N)).getD k 0 = x at *
  obtain ⟨p, hpe⟩ : ∃ p : Nat, (p : Int) = pl N k := ⟨(pl N k).toNat, by omega⟩
  rw [← hpe] at hp hps c1
  rw [Int.toNat_natCast] at c1
  have hp8 : (p : Int) < 8 := by omega
  clear hx hpe hms
  go_enter Try.func35, Try.ntmps35
  go_wp2_with (first
    | (go_at_call 46; ((with_reducible refine (hps.out _).mono ?_); rintro e w0 ⟨rfl, rfl⟩)))
  go_ret
  exact ⟨rfl, (Below.refl _ _).alloc (Nat.le_refl _) _⟩
/-- At these four places, no crossing. -/
def NoX (a : List Int) (i j k l : Nat) : Prop := a.getD i 0 = a.getD k 0 → a.getD j 0 = a.getD l 0 → a.getD i 0 = a.getD j 0
def LI (a : List Int) (m i : Nat) : Prop := ∀ i' j k l, i' < j → j < k → k < l → l < m → i' < i → NoX a i' j k l
def LJ (a : List Int) (m i j : Nat) : Prop := ∀ j' k l, i < j' → j' < k → k < l → l < m → j' < j → NoX a i j' k l
def LK (a : List Int) (m i j k : Nat) : Prop := ∀ k' l, j < k' → k' < l → l < m → k' < k → NoX a i j k' l
def LL (a : List Int) (m i j k l : Nat) : Prop := ∀ l', k < l' → l' < m → l' < l → NoX a i j k l'
theorem LI_end (a : List Int) (m : Nat) (h : LI a m m) : ¬ Crs a m := by
  rintro ⟨i, j, k, l, h1, h2, h3, h4, e1, e2, e3⟩
  exact e3 (h i j k l h1 h2 h3 h4 (by omega) e1 e2)
theorem LI_step (a : List Int) (m i : Nat) (h : LI a m i) (hj : LJ a m i m) : LI a m (i + 1) := by
  intro i' j k l h1 h2 h3 h4 h5
  by_cases e : i' = i
  · subst e; exact hj j k l h1 h2 h3 h4 (by omega)
  · exact h i' j k l h1 h2 h3 h4 (by omega)
theorem LJ_step (a : List Int) (m i j : Nat) (h : LJ a m i j) (hj : LK a m i j m) : LJ a m i (j + 1) := by
  intro j' k l h1 h2 h3 h4 h5
  by_cases e : j' = j
  · subst e; exact hj k l h2 h3 h4 (by omega)
  · exact h j' k l h1 h2 h3 h4 (by omega)
theorem LK_step (a : List Int) (m i j k : Nat) (h : LK a m i j k) (hj : LL a m i j k m) : LK a m i j (k + 1) := by
  intro k' l h2 h3 h4 h5
  by_cases e : k' = k
  · subst e; exact hj l h3 h4 h4
  · exact h k' l h2 h3 h4 (by omega)
theorem LL_step (a : List Int) (m i j k l : Nat) (h : LL a m i j k l) (hj : NoX a i j k l) : LL a m i j k (l + 1) := by
  intro l' h3 h4 h5
  by_cases e : l' = l
  · subst e; exact hj
  · exact h l' h3 h4 (by omega)
set_option maxRecDepth 100000 in
set_option maxHeartbeats 8000000 in
theorem planS_any (N : Nat) (ms : List Int) (hms : ms.length = 8) (h1 : 1 ≤ N) (h4 : N ≤ 4) (w : World) :
    Calls Try.prog 26 #[.agg (dcells N ms)] w fun e w' => ∃ r : Bool, e = .returned (.bool r) ∧ (r = true ↔ ¬ Crs (arZ N ms N (2 * N)) (2 * N)) ∧ Below w.heap.size w w' := by
  have HAT := Lib.hid (fun k hk w => atS_any N ms hms h1 h4 k hk w)
  have HLD := Lib.hid (fun w ho => loadP_grown N ms hms w.heap.size w ho)
  have hms' := Lib.hid hms
  have c0 := (Own.new w (dcells N ms) 38).cell 0
  rw [dcells_zero] at c0
  generalize arZ N ms N (2 * N) = a at *
  have hend := Lib.hid (LI_end a (2 * N))
  have HO := Lib.hid (Own.new w (dcells N ms) 38)
  have HB := Lib.hid (show Below w.heap.size w (w.alloc (.cells (dcells N ms) 38)) from (Below.refl _ _).alloc (Nat.le_refl _) _)
  clear hms
  go_enter Try.func26, Try.ntmps26
  go_wp2
  clear c0
  go_loopw [4] (fun v wr => ∃ i : Nat, i ≤ 2 * N ∧ 0 ≤ i ∧ v = .int .i64 (i : Int) ∧ Hid (LI a (2 * N) i) ∧ Own wr w.heap.size (dcells N ms) 38 ∧ Below w.heap.size w wr) (fun v _ => (2 * (N : Int) - intOf v).toNat)
  case atStart => exact ⟨0, by omega, by omega, by go_num, Lib.hid (fun _ _ _ _ _ _ _ _ h => absurd h (Nat.not_lt_zero _)), HO.out, HB.out⟩
  case round =>
    clear HO HB
    obtain ⟨i, hi, li, rfl, Hi, hO, hB⟩ := hrel
    have HO := Lib.hid hO
    have HB := Lib.hid hB
    clear hO hB
    by_cases ti : i < 2 * N
    · have ii : (i : Int) < 2 * (N : Int) := by omega
      go_wp2
      go_loopw [5] (fun v wr => ∃ j : Nat, j ≤ 2 * N ∧ i + 1 ≤ j ∧ v = .int .i64 (j : Int) ∧ Hid (LJ a (2 * N) i j) ∧ Own wr w.heap.size (dcells N ms) 38 ∧ Below w.heap.size w wr) (fun v _ => (2 * (N : Int) - intOf v).toNat)
      case atStart => exact ⟨i + 1, by omega, by omega, by go_num, Lib.hid (fun _ _ _ h _ _ _ h2 => absurd h2 (by omega)), HO.out, HB.out⟩
      case round =>
        clear HO HB
        obtain ⟨j, hj, lj, rfl, Hj, hO, hB⟩ := hrel
        have HO := Lib.hid hO
        have HB := Lib.hid hB
        clear hO hB
        by_cases tj : j < 2 * N
        · have ij : (j : Int) < 2 * (N : Int) := by omega
          go_wp2
          go_loopw [6] (fun v wr => ∃ k : Nat, k ≤ 2 * N ∧ j + 1 ≤ k ∧ v = .int .i64 (k : Int) ∧ Hid (LK a (2 * N) i j k) ∧ Own wr w.heap.size (dcells N ms) 38 ∧ Below w.heap.size w wr) (fun v _ => (2 * (N : Int) - intOf v).toNat)
          case atStart => exact ⟨j + 1, by omega, by omega, by go_num, Lib.hid (fun _ _ h _ _ h2 => absurd h2 (by omega)), HO.out, HB.out⟩
          case round =>
            clear HO HB
            obtain ⟨k, hk, lk, rfl, Hk, hO, hB⟩ := hrel
            have HO := Lib.hid hO
            have HB := Lib.hid hB
            clear hO hB
            by_cases tk : k < 2 * N
            · have ik : (k : Int) < 2 * (N : Int) := by omega
              go_wp2
              go_loopw [7] (fun v wr => ∃ l : Nat, l ≤ 2 * N ∧ k + 1 ≤ l ∧ v = .int .i64 (l : Int) ∧ Hid (LL a (2 * N) i j k l) ∧ Own wr w.heap.size (dcells N ms) 38 ∧ Below w.heap.size w wr) (fun v _ => (2 * (N : Int) - intOf v).toNat)
              case atStart => exact ⟨k + 1, by omega, by omega, by go_num, Lib.hid (fun _ h _ h2 => absurd h2 (by omega)), HO.out, HB.out⟩
              case round =>
                clear HO HB
                obtain ⟨l, hl, ll, rfl, Hl, hO, hB⟩ := hrel
                have HO := Lib.hid hO
                have HB := Lib.hid hB
                clear hO hB
                by_cases tl : l < 2 * N
                · have il : (l : Int) < 2 * (N : Int) := by omega
                  have hld := loadP_grown N ms hms'.out w.heap.size wr HO.out
                  have ci : ∀ d os, Calls Try.prog 35 #[.agg (dcells N ms), .int .i64 (i : Int)] (Sort.grow (redrawn wr d) os) fun e w'' => e = .returned (.int .u8 (a.getD i 0)) ∧ ∃ p : Regrown, w'' = Sort.grow (redrawn wr p.d) p.os := fun d os => Calls.regrown_of (HAT.out i (by omega) _)
                  have cj : ∀ d os, Calls Try.prog 35 #[.agg (dcells N ms), .int .i64 (j : Int)] (Sort.grow (redrawn wr d) os) fun e w'' => e = .returned (.int .u8 (a.getD j 0)) ∧ ∃ p : Regrown, w'' = Sort.grow (redrawn wr p.d) p.os := fun d os => Calls.regrown_of (HAT.out j (by omega) _)
                  have ck : ∀ d os, Calls Try.prog 35 #[.agg (dcells N ms), .int .i64 (k : Int)] (Sort.grow (redrawn wr d) os) fun e w'' => e = .returned (.int .u8 (a.getD k 0)) ∧ ∃ p : Regrown, w'' = Sort.grow (redrawn wr p.d) p.os := fun d os => Calls.regrown_of (HAT.out k (by omega) _)
                  have cl : ∀ d os, Calls Try.prog 35 #[.agg (dcells N ms), .int .i64 (l : Int)] (Sort.grow (redrawn wr d) os) fun e w'' => e = .returned (.int .u8 (a.getD l 0)) ∧ ∃ p : Regrown, w'' = Sort.grow (redrawn wr p.d) p.os := fun d os => Calls.regrown_of (HAT.out l (by omega) _)
                  by_cases e1 : a.getD i 0 = a.getD k 0
                  · rw [← e1] at ck
                    by_cases e2 : a.getD j 0 = a.getD l 0
                    · rw [← e2] at cl
                      by_cases e3 : a.getD i 0 = a.getD j 0
                      · have HN := Lib.hid (LL_step a (2 * N) i j k l Hl.out (fun _ _ => e3))
                        rw [← e3] at cj cl
                        generalize a.getD i 0 = x at *
                        have q1 : (x == x) = true := by simp
                        have q2 : (x != x) = false := by simp
                        clear e1 e2 e3
                        go_wp2
                        refine wp_region_quiet_below (by kernel_rfl) (by kernel_rfl) ?_
                        go_big_quiet_want
                        refine quiet_ld 38 (.tmp 1) rfl ⟨w.heap.size, 0, none⟩ rfl _ (fun w' h => by obtain ⟨pp, rfl⟩ := h; exact hld _ _) ?_
                        go_frame
                        go_big_quiet_on
                        iterate 1 (go_big_quiet_step (fail))
                        go_big_quiet_step (exact ci _ _)
                        go_big_quiet_want
                        refine quiet_ld 38 (.tmp 1) rfl ⟨w.heap.size, 0, none⟩ rfl _ (fun w' h => by obtain ⟨pp, rfl⟩ := h; exact hld _ _) ?_
                        go_frame
                        go_big_quiet_on
                        iterate 1 (go_big_quiet_step (fail))
                        go_big_quiet_step (exact ck _ _)
                        iterate 2 (go_big_quiet_step (fail))
                        go_big_quiet_want
                        refine quiet_ld 38 (.tmp 1) rfl ⟨w.heap.size, 0, none⟩ rfl _ (fun w' h => by obtain ⟨pp, rfl⟩ := h; exact hld _ _) ?_
                        go_frame
                        go_big_quiet_on
                        iterate 1 (go_big_quiet_step (fail))
                        go_big_quiet_step (exact cj _ _)
                        go_big_quiet_want
                        refine quiet_ld 38 (.tmp 1) rfl ⟨w.heap.size, 0, none⟩ rfl _ (fun w' h => by obtain ⟨pp, rfl⟩ := h; exact hld _ _) ?_
                        go_frame
                        go_big_quiet_on
                        iterate 1 (go_big_quiet_step (fail))
                        go_big_quiet_step (exact cl _ _)
                        iterate 3 (go_big_quiet_step (fail))
                        go_big_quiet_want
                        refine quiet_ld 38 (.tmp 1) rfl ⟨w.heap.size, 0, none⟩ rfl _ (fun w' h => by obtain ⟨pp, rfl⟩ := h; exact hld _ _) ?_
                        go_frame
                        go_big_quiet_on
                        iterate 1 (go_big_quiet_step (fail))
                        go_big_quiet_step (exact ci _ _)
                        go_big_quiet_want
                        refine quiet_ld 38 (.tmp 1) rfl ⟨w.heap.size, 0, none⟩ rfl _ (fun w' h => by obtain ⟨pp, rfl⟩ := h; exact hld _ _) ?_
                        go_frame
                        go_big_quiet_on
                        iterate 1 (go_big_quiet_step (fail))
                        go_big_quiet_step (exact cj _ _)
                        iterate 2 (go_big_quiet_step (fail))
                        refine wpQuiet_nil ?_
                        intro _ hw'
                        obtain ⟨⟨dq, osq⟩, hw''⟩ := hw'
                        subst hw''
                        have b3 := HB.out.trans ((below_regrown wr dq osq).mono HB.out.size)
                        have o3 := HO.out.below (below_regrown wr dq osq) HO.out.lt
                        go_wp2
                        go_roundw
                        case rel => exact ⟨l + 1, by omega, by omega, by go_num, HN, o3, b3⟩
                        case measure => simp [intOf] <;> omega
                      · have HC := Lib.hid (show Crs a (2 * N) from ⟨i, j, k, l, by omega, by omega, by omega, by omega, e1, e2, e3⟩)
                        have q0 : (a.getD i 0 != a.getD j 0) = true := by simpa using e3
                        generalize a.getD i 0 = x at *
                        generalize a.getD j 0 = y at *
                        have q1 : (x == x) = true := by simp
                        have q2 : (y == y) = true := by simp
                        clear e1 e2
                        go_wp2
                        refine wp_region_quiet_below (by kernel_rfl) (by kernel_rfl) ?_
                        go_big_quiet_want
                        refine quiet_ld 38 (.tmp 1) rfl ⟨w.heap.size, 0, none⟩ rfl _ (fun w' h => by obtain ⟨pp, rfl⟩ := h; exact hld _ _) ?_
                        go_frame
                        go_big_quiet_on
                        iterate 1 (go_big_quiet_step (fail))
                        go_big_quiet_step (exact ci _ _)
                        go_big_quiet_want
                        refine quiet_ld 38 (.tmp 1) rfl ⟨w.heap.size, 0, none⟩ rfl _ (fun w' h => by obtain ⟨pp, rfl⟩ := h; exact hld _ _) ?_
                        go_frame
                        go_big_quiet_on
                        iterate 1 (go_big_quiet_step (fail))
                        go_big_quiet_step (exact ck _ _)
                        iterate 2 (go_big_quiet_step (fail))
                        go_big_quiet_want
                        refine quiet_ld 38 (.tmp 1) rfl ⟨w.heap.size, 0, none⟩ rfl _ (fun w' h => by obtain ⟨pp, rfl⟩ := h; exact hld _ _) ?_
                        go_frame
                        go_big_quiet_on
                        iterate 1 (go_big_quiet_step (fail))
                        go_big_quiet_step (exact cj _ _)
                        go_big_quiet_want
                        refine quiet_ld 38 (.tmp 1) rfl ⟨w.heap.size, 0, none⟩ rfl _ (fun w' h => by obtain ⟨pp, rfl⟩ := h; exact hld _ _) ?_
                        go_frame
                        go_big_quiet_on
                        iterate 1 (go_big_quiet_step (fail))
                        go_big_quiet_step (exact cl _ _)
                        iterate 3 (go_big_quiet_step (fail))
                        go_big_quiet_want
                        refine quiet_ld 38 (.tmp 1) rfl ⟨w.heap.size, 0, none⟩ rfl _ (fun w' h => by obtain ⟨pp, rfl⟩ := h; exact hld _ _) ?_
                        go_frame
                        go_big_quiet_on
                        iterate 1 (go_big_quiet_step (fail))
                        go_big_quiet_step (exact ci _ _)
                        go_big_quiet_want
                        refine quiet_ld 38 (.tmp 1) rfl ⟨w.heap.size, 0, none⟩ rfl _ (fun w' h => by obtain ⟨pp, rfl⟩ := h; exact hld _ _) ?_
                        go_frame
                        go_big_quiet_on
                        iterate 1 (go_big_quiet_step (fail))
                        go_big_quiet_step (exact cj _ _)
                        iterate 2 (go_big_quiet_step (fail))
                        refine wpQuiet_nil ?_
                        intro _ hw'
                        obtain ⟨⟨dq, osq⟩, hw''⟩ := hw'
                        subst hw''
                        have b3 := HB.out.trans ((below_regrown wr dq osq).mono HB.out.size)
                        have o3 := HO.out.below (below_regrown wr dq osq) HO.out.lt
                        go_wp2
                        go_ret
                        exact ⟨false, rfl, by simpa using HC.out, b3⟩
                    · have HN := Lib.hid (LL_step a (2 * N) i j k l Hl.out (fun _ h => absurd h e2))
                      have q0 : (a.getD j 0 == a.getD l 0) = false := by simpa using e2
                      generalize a.getD i 0 = x at *
                      generalize a.getD j 0 = y at *
                      generalize a.getD l 0 = z at *
                      have q1 : (x == x) = true := by simp
                      clear e1 e2
                      go_wp2
                      refine wp_region_quiet_below (by kernel_rfl) (by kernel_rfl) ?_
                      go_big_quiet_want
                      refine quiet_ld 38 (.tmp 1) rfl ⟨w.heap.size, 0, none⟩ rfl _ (fun w' h => by obtain ⟨pp, rfl⟩ := h; exact hld _ _) ?_
                      go_frame
                      go_big_quiet_on
                      iterate 1 (go_big_quiet_step (fail))
                      go_big_quiet_step (exact ci _ _)
                      go_big_quiet_want
                      refine quiet_ld 38 (.tmp 1) rfl ⟨w.heap.size, 0, none⟩ rfl _ (fun w' h => by obtain ⟨pp, rfl⟩ := h; exact hld _ _) ?_
                      go_frame
                      go_big_quiet_on
                      iterate 1 (go_big_quiet_step (fail))
                      go_big_quiet_step (exact ck _ _)
                      iterate 2 (go_big_quiet_step (fail))
                      go_big_quiet_want
                      refine quiet_ld 38 (.tmp 1) rfl ⟨w.heap.size, 0, none⟩ rfl _ (fun w' h => by obtain ⟨pp, rfl⟩ := h; exact hld _ _) ?_
                      go_frame
                      go_big_quiet_on
                      iterate 1 (go_big_quiet_step (fail))
                      go_big_quiet_step (exact cj _ _)
                      go_big_quiet_want
                      refine quiet_ld 38 (.tmp 1) rfl ⟨w.heap.size, 0, none⟩ rfl _ (fun w' h => by obtain ⟨pp, rfl⟩ := h; exact hld _ _) ?_
                      go_frame
                      go_big_quiet_on
                      iterate 1 (go_big_quiet_step (fail))
                      go_big_quiet_step (exact cl _ _)
                      iterate 11 (go_big_quiet_step (fail))
                      refine wpQuiet_nil ?_
                      intro _ hw'
                      obtain ⟨⟨dq, osq⟩, hw''⟩ := hw'
                      subst hw''
                      have b3 := HB.out.trans ((below_regrown wr dq osq).mono HB.out.size)
                      have o3 := HO.out.below (below_regrown wr dq osq) HO.out.lt
                      go_wp2
                      go_roundw
                      case rel => exact ⟨l + 1, by omega, by omega, by go_num, HN, o3, b3⟩
                      case measure => simp [intOf] <;> omega
                  · have HN := Lib.hid (LL_step a (2 * N) i j k l Hl.out (fun h => absurd h e1))
                    have q0 : (a.getD i 0 == a.getD k 0) = false := by simpa using e1
                    generalize a.getD i 0 = x at *
                    generalize a.getD k 0 = z at *
                    clear e1
                    go_wp2
                    refine wp_region_quiet_below (by kernel_rfl) (by kernel_rfl) ?_
                    go_big_quiet_want
                    refine quiet_ld 38 (.tmp 1) rfl ⟨w.heap.size, 0, none⟩ rfl _ (fun w' h => by obtain ⟨pp, rfl⟩ := h; exact hld _ _) ?_
                    go_frame
                    go_big_quiet_on
                    iterate 1 (go_big_quiet_step (fail))
                    go_big_quiet_step (exact ci _ _)
                    go_big_quiet_want
                    refine quiet_ld 38 (.tmp 1) rfl ⟨w.heap.size, 0, none⟩ rfl _ (fun w' h => by obtain ⟨pp, rfl⟩ := h; exact hld _ _) ?_
                    go_frame
                    go_big_quiet_on
                    iterate 1 (go_big_quiet_step (fail))
                    go_big_quiet_step (exact ck _ _)
                    iterate 19 (go_big_quiet_step (fail))
                    refine wpQuiet_nil ?_
                    intro _ hw'
                    obtain ⟨⟨dq, osq⟩, hw''⟩ := hw'
                    subst hw''
                    have b3 := HB.out.trans ((below_regrown wr dq osq).mono HB.out.size)
                    have o3 := HO.out.below (below_regrown wr dq osq) HO.out.lt
                    go_wp2
                    go_roundw
                    case rel => exact ⟨l + 1, by omega, by omega, by go_num, HN, o3, b3⟩
                    case measure => simp [intOf] <;> omega
                · obtain rfl : l = 2 * N := by omega
                  have HN := Lib.hid (LK_step a (2 * N) i j k Hk.out Hl.out)
                  go_wp2
                  go_roundw
                  case rel => exact ⟨k + 1, by omega, by omega, by go_num, HN, HO.out, HB.out⟩
                  case measure => simp [intOf] <;> omega
            · obtain rfl : k = 2 * N := by omega
              have HN := Lib.hid (LJ_step a (2 * N) i j Hj.out Hk.out)
              go_wp2
              go_roundw
              case rel => exact ⟨j + 1, by omega, by omega, by go_num, HN, HO.out, HB.out⟩
              case measure => simp [intOf] <;> omega
        · obtain rfl : j = 2 * N := by omega
          have HN := Lib.hid (LI_step a (2 * N) i Hi.out Hj.out)
          go_wp2
          go_roundw
          case rel => exact ⟨i + 1, by omega, by omega, by go_num, HN, HO.out, HB.out⟩
          case measure => simp [intOf] <;> omega
    · obtain rfl : i = 2 * N := by omega
      go_wp2
      go_ret
      exact ⟨true, rfl, by simpa using hend.out Hi.out, HB.out⟩
end Go.Proofs.Ythjgcakpimbcbaa
