/- The model's way to add a term to a sum. -/
import Derived.Test.YtbibmncepjmgcaaKf
import Derived.Test.YtbibmncepjmgcaaElS
import Derived.Test.YtbibmncepjmgcaaKd
namespace Go.Proofs.Ytbibmncepjmgcaa
open Go.RowKit Go.BigFrame
set_option linter.unusedVariables false
def kT (t : Tm) : Dg := (t.1, t.2.1)
theorem getD_mem {ts : List Tm} {j : Nat} (hj : j < ts.length) : ts.getD j zT ∈ ts := by
  rw [List.getD_eq_getElem?_getD, List.getElem?_eq_getElem hj]; exact List.getElem_mem hj
theorem srt_get {p : Int} {ts : List Tm} (h : GoodT p ts) {i j : Nat} (hij : i < j) (hj : j < ts.length) : ltD (kT (ts.getD i zT)) (kT (ts.getD j zT)) = true := by
  have := List.pairwise_iff_getElem.1 h.srt i j (by omega) hj hij
  rw [List.getD_eq_getElem?_getD, List.getElem?_eq_getElem (by omega : i < ts.length), List.getD_eq_getElem?_getD, List.getElem?_eq_getElem hj]
  exact this
theorem lt_up {p : Int} {ts : List Tm} (h : GoodT p ts) {d : Dg} (hd : VD d) {m j : Nat} (hm : m < ts.length) (hj : j ≤ m) (h1 : ltD (kT (ts.getD m zT)) d = true) : ltD (kT (ts.getD j zT)) d = true := by
  by_cases e : j = m
  · subst e; exact h1
  · exact linD.tr _ _ _ (h.val _ (getD_mem (by omega))) (h.val _ (getD_mem hm)) hd (srt_get h (by omega) hm) h1
theorem lt_dn {p : Int} {ts : List Tm} (h : GoodT p ts) {d : Dg} (hd : VD d) {m j : Nat} (hm : m ≤ j) (hj : j < ts.length) (h1 : ltD (kT (ts.getD m zT)) d = false) : ltD (kT (ts.getD j zT)) d = false := by
  cases q : ltD (kT (ts.getD j zT)) d with
  | false => rfl
  | true => rw [lt_up h hd hj hm q] at h1; cases h1
theorem good16 {p : Int} {ts : List Tm} (h : GoodT p ts) : L16 ts := fun t ht => (h.val t ht).2.1
theorem cut_put {p : Int} {ts : List Tm} {d : Dg} {k : Int} {c : Nat} (hc : c ≤ ts.length) (h1 : ∀ j, j < c → ltD (kT (ts.getD j zT)) d = true) (h2 : ∀ j, c ≤ j → j < ts.length → ltD (kT (ts.getD j zT)) d = false) : put ltD trmT p d k ts = ts.take c ++ tailP (R := trmT) p d k (ts.drop c) := by
  refine put_cut c ts hc (fun t ht => ?_) (fun t ht => ?_)
  · obtain ⟨j, hj, e⟩ := List.mem_iff_getElem.1 ht
    rw [List.length_take] at hj
    have := h1 j (by omega)
    rw [List.getD_eq_getElem?_getD, List.getElem?_eq_getElem (by omega)] at this
    rw [List.getElem_take] at e
    rw [← e]; exact this
  · obtain ⟨j, hj, e⟩ := List.mem_iff_getElem.1 ht
    rw [List.length_drop] at hj
    have := h2 (c + j) (by omega) (by omega)
    rw [List.getD_eq_getElem?_getD, List.getElem?_eq_getElem (by omega)] at this
    rw [List.getElem_drop] at e
    rw [← e]; exact this
set_option maxRecDepth 100000 in
set_option maxHeartbeats 4000000 in
theorem putS_any (B g cap : Nat) (ts : List Tm) (p k n : Int) (ms : List Int) (w : World) (hM : MnT w B g ts) (hB : B ≤ w.heap.size) (hcap : ts.length ≤ cap) (hl : ts.length ≤ 20000) (hG : GoodT p ts) (hp : 2 ≤ p) (hp2 : p ≤ 97) (hk0 : -1000000000000 ≤ k) (hk1 : k ≤ 1000000000000) (hd : VD (n, ms)) :
    Calls Try.prog 71 #[.int .i64 p, .slice (some ⟨g, 0, none⟩) ts.length cap, .agg (dcells n ms), .int .i64 k] w fun e w' => (∃ g' cap', e = .returned (.slice (some ⟨g', 0, none⟩) (addT p (n, ms) k ts).length cap') ∧ (addT p (n, ms) k ts).length ≤ cap' ∧ MnT w' B g' (addT p (n, ms) k ts)) ∧ Below w.heap.size w w' := by
  obtain ⟨hdi, hms, hmb⟩ := hd
  have hsz := isD_size hdi
  have h16 := good16 hG
  have hmod := Lib.hid (fun w => (modS_any p k w hp hp2 hk0 hk1).mono fun e w' h => (show e = .returned (.int .i64 (k % p)) ∧ w' = w from ⟨h.1, h.2.symm⟩))
  have r0 := Int.emod_nonneg k (show p ≠ 0 by omega)
  have r1 := Int.emod_lt_of_pos k (show 0 < p by omega)
  have hadd0 := Lib.hid (fun (h : k % p = 0) => show addT p (n, ms) k ts = ts by show addL _ _ _ _ _ _ = _; unfold addL; rw [if_pos h])
  have haddk := Lib.hid (fun (h : k % p ≠ 0) => show addT p (n, ms) k ts = put ltD trmT p (n, ms) (k % p) ts by show addL _ _ _ _ _ _ = _; unfold addL; rw [if_neg h])
  generalize addT p (n, ms) k ts = R at *
  generalize k % p = z at *
  have hl17 := Lib.hid hms
  have hM' := Lib.hid hM
  have hG' := Lib.hid hG
  have hd' := Lib.hid (show VD (n, ms) from ⟨hdi, hms, hmb⟩)
  have hT := Lib.hid (fun w => textM_any n ms hms hmb w hsz.1 hsz.2)
  obtain ⟨l, hll⟩ : ∃ l, ts.length = l := ⟨_, rfl⟩
  have hL := Lib.hid hll
  rw [hll] at hl hcap ⊢
  clear hM hG hdi hms hmb hll
  by_cases hz : z = 0
  · subst hz
    have hR := Lib.hid (hadd0.out rfl)
    clear hadd0 haddk hT
    go_enter Try.func71, Try.ntmps71
    go_wp2_with (first
      | (go_at_call 58; ((with_reducible refine (hmod.out _).mono ?_); rintro e w1 ⟨rfl, rfl⟩)))
    go_ret
    exact ⟨⟨g, cap, by rw [hR.out, hL.out]; rfl, by rw [hR.out, hL.out]; exact hcap, by rw [hR.out]; exact hM'.out.alloc _⟩, (Below.refl _ _).alloc (Nat.le_refl _) _⟩
  · have z1 : 1 ≤ z := by omega
    have hz' : (z == 0) = false := by simpa using hz
    have hR := Lib.hid (haddk.out hz)
    clear hadd0 haddk hz
    go_enter Try.func71, Try.ntmps71
    go_wp2_with (first
      | (go_at_call 58; ((with_reducible refine (hmod.out _).mono ?_); rintro e w1 ⟨rfl, rfl⟩))
      | (refine wpList_load_row rfl 53 _ rfl _ rfl 53 _ (0, 0) _ (Own.new w _ _) Try.underlying53 rfl (row26 (d17 _ _ (hl17.out))) ?_)
      | (go_at_call 104; ((with_reducible refine (hT.out _).mono ?_); rintro e w2 ⟨rfl, hB2⟩; have b2 := ((Below.refl w.heap.size w).alloc (Nat.le_refl _) _).trans (hB2.mono (by simp)); have hD2 := (Own.new w (dcells n ms) 53).below hB2 (by simp); have hM2 := (hM'.out.alloc (.cells (dcells n ms) 53)).below hB2 (by have := hM'.out.lt; simp <;> omega))))
    have hD2' := Lib.hid hD2
    have hM2' := Lib.hid hM2
    have b2' := Lib.hid b2
    clear hD2 hM2 b2 hB2 hM' hT
    go_loopw [9, 10] (fun lo hi wr => ∃ a b : Nat, a ≤ b ∧ b ≤ l ∧ lo = .int .i64 a ∧ hi = .int .i64 b ∧ Hid (∀ j, j < a → ltD (kT (ts.getD j zT)) (n, ms) = true) ∧ Hid (∀ j, b ≤ j → j < ts.length → ltD (kT (ts.getD j zT)) (n, ms) = false) ∧ Own wr w.heap.size (dcells n ms) 53 ∧ MnT wr B g ts ∧ Below w.heap.size w wr) (fun lo hi _ => (intOf hi - intOf lo).toNat)
    case atStart => exact ⟨0, l, Nat.zero_le _, Nat.le_refl _, rfl, rfl, Lib.hid (fun j h => by omega), Lib.hid (fun j h1 h2 => by rw [hL.out] at h2; omega), hD2'.out, hM2'.out, b2'.out⟩
    case round =>
      clear hD2' hM2' b2'
      obtain ⟨a, b, hab, hbl, rfl, rfl, hA, hBb, hD, hM, hBw⟩ := hrel
      by_cases hlt : a < b
      · have hmid : ((a : Int) + b) / 2 = (((a + b) / 2 : Nat) : Int) := by omega
        have hmt : Int.tdiv ((a : Int) + b) 2 = (((a + b) / 2 : Nat) : Int) := by rw [Int.tdiv_eq_ediv_of_nonneg (by omega)]; exact hmid
        obtain ⟨m, hm⟩ : ∃ m, (a + b) / 2 = m := ⟨_, rfl⟩
        rw [hm] at hmid hmt
        have hm1 : a ≤ m := by omega
        have hm2 : m < b := by omega
        have hml : m < ts.length := by rw [hL.out]; omega
        have hmI : (m : Int) < l := by omega
        have hmI2 : m < l := by omega
        have hwm : IntKind.i64.wrap (m : Int) = (m : Int) := IntWalk.i64_in _ (by omega)
        have hval := hG'.out.val _ (getD_mem hml)
        obtain ⟨⟨tn, tms, tk⟩, ht⟩ : ∃ t, ts.getD m zT = t := ⟨_, rfl⟩
        have hfl := Lib.hid (show ∀ i v, (dcells tn tms).toList[i]? = some v → wr.cell? ((⟨g, m * 18, none⟩ : Addr).add i) = some v from fun i v hi => by
          rw [Addr.add_mid]
          exact hM.flat _ _ (tsl_term ts (good16 hG'.out) m hml i v (by rw [ht]; show ((dcells tn tms).toList ++ [_])[i]? = _; rw [List.getElem?_append_left (List.getElem?_eq_some_iff.1 hi).1]; exact hi)))
        rw [ht] at hval
        obtain ⟨v1, v2, v3⟩ := hval
        replace v1 : isD tn tms = true := v1
        replace v2 : tms.length = 16 := v2
        replace v3 : Bytes tms := v3
        have hvz := isD_size v1
        have hT2 := Lib.hid (fun w => textM_any tn tms v2 v3 w hvz.1 hvz.2)
        have hd17 := Lib.hid (dl17 (n := tn) v2)
        have hlo := Lib.hid (show ltD (kT (ts.getD m zT)) (n, ms) = Op.bytesLess (textS tn tms).toList (textS n ms).toList by rw [ht]; rfl)
        obtain ⟨s1, hs1⟩ : ∃ s, textS tn tms = s := ⟨_, rfl⟩
        rw [hs1] at hT2 hlo
        cases hc : Op.bytesLess s1.toList (textS n ms).toList with
        | true =>
          have hN := Lib.hid (show ∀ j, j < m + 1 → ltD (kT (ts.getD j zT)) (n, ms) = true from fun j hj => lt_up hG'.out hd'.out hml (by omega) (by rw [hlo.out, hc]))
          clear hlo v1 v2 v3 hvz ht hs1 hm hA
          go_wp2_with (first
            | (refine wpList_load_at rfl 53 (.tmp 35) rfl ⟨g, m * 18, none⟩ (by first | rfl | simp) (dcells tn tms).toList _ hfl.out Try.underlying53 rfl (by rw [hd17.out]; kernel_rfl) ?_)
            | (go_at_call 104; ((with_reducible refine (hT2.out _).mono ?_); rintro e w3 ⟨rfl, hB3⟩; have b3 := hBw.trans (hB3.mono hBw.size); have hD3 := hD.below hB3 hD.lt; have hM3 := hM.below hB3 hM.lt)))
          go_roundw
          case rel => exact ⟨m + 1, b, by omega, hbl, by go_num, rfl, hN, hBb, hD3, hM3, b3⟩
          case measure => simp [intOf]; omega
        | false =>
          have hN := Lib.hid (show ∀ j, m ≤ j → j < ts.length → ltD (kT (ts.getD j zT)) (n, ms) = false from fun j hj hj2 => lt_dn hG'.out hd'.out hj hj2 (by rw [hlo.out, hc]))
          clear hlo v1 v2 v3 hvz ht hs1 hm hBb
          go_wp2_with (first
            | (refine wpList_load_at rfl 53 (.tmp 35) rfl ⟨g, m * 18, none⟩ (by first | rfl | simp) (dcells tn tms).toList _ hfl.out Try.underlying53 rfl (by rw [hd17.out]; kernel_rfl) ?_)
            | (go_at_call 104; ((with_reducible refine (hT2.out _).mono ?_); rintro e w3 ⟨rfl, hB3⟩; have b3 := hBw.trans (hB3.mono hBw.size); have hD3 := hD.below hB3 hD.lt; have hM3 := hM.below hB3 hM.lt)))
          go_roundw
          case rel => exact ⟨a, m, hm1, by omega, rfl, rfl, hA, hN, hD3, hM3, b3⟩
          case measure => simp [intOf]; omega
      · obtain rfl : a = b := by omega
        have hput := Lib.hid (cut_put (p := p) (k := z) (by rw [hL.out]; exact hbl) hA.out hBb.out)
        have hlen := Lib.hid (show (ts.take a).length = a by rw [List.length_take, hL.out]; omega)
        have hM' := Lib.hid hM
        have hD' := Lib.hid hD
        have hBw' := Lib.hid hBw
        have hlt1 := hM.lt
        have haI : (a : Int) ≤ l := by omega
        clear hA hBb hM hD hBw
        go_wp2_with (first
          | (refine wpList_append_terms rfl (.tmp 43) (.tmp 46) rfl wr.heap.size (.slice (some ⟨wr.heap.size, 0, none⟩) 0 0) [] (ts.take a) (fun t ht => good16 hG'.out t (List.mem_of_mem_take ht)) rfl (RowT.new wr wr.heap.size rfl (Nat.le_refl _)) (by simp) ⟨g, 0, none⟩ cap (by rw [hlen.out]; rfl) (fun i u hu => by rw [Addr.add_mid, Nat.zero_add]; exact (hM'.out.alloc _).flat i u (tsl_take ts a i u hu)) (by rw [hlen.out]; simp <;> omega) (by simp) ?_; intro v4 w4 hv4 hn4 hG4))
        have hB4 : Below wr.heap.size wr w4 := ((Below.refl wr.heap.size wr).alloc (Nat.le_refl _) _).grown hG4 (by simp) (fun k e => by simp [Value.ownBlock] at e; omega)
        have hM4 := hM'.out.below hB4 hlt1
        have hD4 := hD'.out.below hB4 hD'.out.lt
        have hBW := Lib.hid (show B ≤ wr.heap.size from Nat.le_trans hB hBw'.out.size)
        have hdl := Lib.hid (show (ts.drop a).length = l - a by rw [List.length_drop, hL.out])
        rw [List.nil_append] at hv4
        by_cases hal : a < l
        · have hml : a < ts.length := by rw [hL.out]; exact hal
          have halI : (a : Int) < l := by omega
          have hval := hG'.out.val _ (getD_mem hml)
          have hrng := hG'.out.rng _ (getD_mem hml)
          have hdrop := Lib.hid (show ts.drop a = ts.getD a zT :: ts.drop (a + 1) by rw [List.drop_eq_getElem_cons hml, List.getD_eq_getElem?_getD, List.getElem?_eq_getElem hml]; rfl)
          obtain ⟨⟨tn, tms, tk⟩, ht⟩ : ∃ t, ts.getD a zT = t := ⟨_, rfl⟩
          have hflat := Lib.hid (show ∀ i v, (tcl (tn, tms, tk))[i]? = some v → w4.cell? ⟨g, a * 18 + i, none⟩ = some v from fun i v hi => hM4.flat _ _ (tsl_term ts (good16 hG'.out) a hml i v (by rw [ht]; exact hi)))
          rw [ht] at hval hrng hdrop
          obtain ⟨v1, v2, v3⟩ := hval
          replace v1 : isD tn tms = true := v1
          replace v2 : tms.length = 16 := v2
          replace hrng : 1 ≤ tk ∧ tk < p := hrng
          have hd17 := Lib.hid (dl17 (n := tn) v2)
          have ld1 := loadD_grown tn tms v2 ⟨g, a * 18, none⟩ w4 (fun i v hi => by rw [Addr.add_mid]; exact hflat.out i v (by show ((dcells tn tms).toList ++ [_])[i]? = _; rw [List.getElem?_append_left (List.getElem?_eq_some_iff.1 hi).1]; exact hi))
          have ld2 := loadD_grown n ms hl17.out ⟨w.heap.size, 0, none⟩ w4 (fun i v hi => by rw [Addr.add_mid, Nat.zero_add]; exact (hD4.cell i).trans (by rw [← hi]; simp))
          have c0 := dcells_zero n ms
          have c0' := dcells_zero tn tms
          have hE := eqMates tn n tms ms v2 hl17.out
          have hmT := mkT1 n ms hl17.out
          by_cases hkey : tn = n ∧ tms = ms
          · obtain ⟨rfl, rfl⟩ := hkey
            rw [decide_eq_true (rfl : tms = tms)] at hE
            refine wp_region_quiet_below (by kernel_rfl) (by kernel_rfl) ?_
            iterate 9 (go_big_quiet_step (fail))
            go_big_quiet_want
            refine quiet_ld 53 (.tmp 56) rfl ⟨g, a * 18, none⟩ (by first | rfl | simp) _ (fun w' h => by obtain ⟨pp, rfl⟩ := h; exact ld1 _ _) ?_
            go_frame
            go_big_quiet_on
            go_big_quiet_want
            refine quiet_ld 53 (.tmp 6) rfl ⟨w.heap.size, 0, none⟩ rfl _ (fun w' h => by obtain ⟨pp, rfl⟩ := h; exact ld2 _ _) ?_
            go_frame
            go_big_quiet_on
            iterate 2 (go_big_quiet_step (fail))
            refine wpQuiet_nil ?_
            intro _ hw'
            obtain ⟨⟨dq, osq⟩, hw''⟩ := hw'
            subst hw''
            have hB5 := hB4.trans ((below_regrown w4 dq osq).mono hB4.size)
            have hv5 := hv4.below (below_regrown w4 dq osq)
            generalize Sort.grow (redrawn w4 dq) osq = w5 at hB5 hv5 ⊢
            have hM5 := hM'.out.below hB5 hlt1
            have hD5 := hD'.out.below hB5 hD'.out.lt
            have hdl1 := Lib.hid (show (ts.drop (a + 1)).length = l - (a + 1) by rw [List.length_drop, hL.out])
            have c17 : w5.cell? ⟨g, a * 18 + 17, none⟩ = some (.int .i64 tk) := hM5.flat _ _ (tsl_term ts (good16 hG'.out) a hml 17 _ (by rw [ht]; show ((dcells tn tms).toList ++ [_])[17]? = _; rw [List.getElem?_append_right (by rw [hd17.out]; exact Nat.le_refl _), hd17.out]; rfl))
            have hmod2 := Lib.hid (fun w => (modS_any p (tk + z) w hp hp2 (by omega) (by omega)).mono fun e w' h => (show e = .returned (.int .i64 ((tk + z) % p)) ∧ w = w' from ⟨h.1, h.2⟩))
            have htp := Lib.hid (show tailP (R := trmT) p (tn, tms) z (ts.drop a) = if (tk + z) % p = 0 then ts.drop (a + 1) else (tn, tms, (tk + z) % p) :: ts.drop (a + 1) by rw [hdrop.out]; exact if_pos rfl)
            have s0 := Int.emod_nonneg (tk + z) (show p ≠ 0 by omega)
            have s1 := Int.emod_lt_of_pos (tk + z) (show 0 < p by omega)
            generalize (tk + z) % p = sm at *
            have aI1 : IntKind.i64.wrap ((a : Int) + 1) = (a : Int) + 1 := IntWalk.i64_in _ (by omega)
            have aI2 : (a : Int) + 1 ≤ l := by omega
            have aI3 : a + 1 ≤ l := by omega
            clear hE ld1 ld2 c0 c0' hv4 hB4 hM4 hD4 v1
            by_cases hs0 : sm = 0
            · subst hs0
              have hfin := Lib.hid (show ts.take a ++ ts.drop (a + 1) = R by rw [hR.out, hput.out, htp.out, if_pos rfl])
              have hvx := hv5
              have hnx := hn4
              have hBx := hB5
              have hMx := hM5
              by_cases hcx : cap = a + 1
              · have hdn : ts.drop (a + 1) = [] := List.drop_eq_nil_of_le (by rw [hL.out]; omega)
                have hl0 : l = a + 1 := by omega
                subst hcx
                first | subst hl0 | skip
                go_wp2_with (first
                  | (refine wpList_append_terms rfl (.tmp 78) (.tmp 82) rfl wr.heap.size v4 (ts.take a) [] (fun t ht => by cases ht) rfl hvx hnx _ _ (by rfl) (fun i u hu => by simp [tsl] at hu) (by simp [hlen.out] <;> omega) hBx.size ?_; intro v8 w8 hv8 hn8 hG8; have hB8 := hBx.grown hG8 hBx.size hvx.blk)
                  | (go_at_call 58; ((with_reducible refine (hmod2.out _).mono ?_); rintro e w6 ⟨rfl, rfl⟩)))
                obtain ⟨g8, cap8, rfl, hc8, hM8⟩ := hv8.mn hn8
                have hfi2 := hfin.out
                rw [hdn] at hfi2
                rw [hfi2] at hM8 hc8 ⊢
                go_ret
                exact ⟨⟨g8, cap8, rfl, hc8, hM8.weak hBW.out⟩, hBw'.out.trans (hB8.mono hBw'.out.size)⟩
              · go_wp2_with (first
                  | (refine wpList_append_terms rfl (.tmp 78) (.tmp 82) rfl wr.heap.size v4 (ts.take a) (ts.drop (a + 1)) (fun t ht => good16 hG'.out t (List.mem_of_mem_drop ht)) rfl hvx hnx ⟨g, (a + 1) * 18, none⟩ (cap - (a + 1)) (by rw [hdl1.out]; first | rfl | simp) (fun i u hu => by rw [Addr.add_mid]; rw [tsl_drop ts (good16 hG'.out) (a + 1) (by rw [hL.out]; omega)] at hu; exact hMx.flat _ _ hu) (by rw [hdl1.out]; simp <;> omega) hBx.size ?_; intro v8 w8 hv8 hn8 hG8; have hB8 := hBx.grown hG8 hBx.size hvx.blk)
                  | (go_at_call 58; ((with_reducible refine (hmod2.out _).mono ?_); rintro e w6 ⟨rfl, rfl⟩)))
                obtain ⟨g8, cap8, rfl, hc8, hM8⟩ := hv8.mn hn8
                rw [hfin.out] at hM8 hc8 ⊢
                go_ret
                exact ⟨⟨g8, cap8, rfl, hc8, hM8.weak hBW.out⟩, hBw'.out.trans (hB8.mono hBw'.out.size)⟩
            · have hsb : (sm != 0) = true := by simpa using hs0
              have hfin := Lib.hid (show ts.take a ++ [(tn, tms, sm)] ++ ts.drop (a + 1) = R by rw [hR.out, hput.out, htp.out, if_neg hs0, List.append_assoc]; rfl)
              by_cases hcx : cap = a + 1
              · have hdn : ts.drop (a + 1) = [] := List.drop_eq_nil_of_le (by rw [hL.out]; omega)
                have hl0 : l = a + 1 := by omega
                subst hcx
                first | subst hl0 | skip
                go_wp2_with (first
                  | (refine wpList_append_terms rfl (.tmp 78) (.tmp 82) rfl wr.heap.size vx (ts.take a ++ [(tn, tms, sm)]) [] (fun t ht => by cases ht) rfl hvx hnx _ _ (by rfl) (fun i u hu => by simp [tsl] at hu) (by simp [hlen.out] <;> omega) hBx.size ?_; intro v8 w8 hv8 hn8 hG8; have hB8 := hBx.grown hG8 hBx.size hvx.blk)
                  | (go_at_call 58; ((with_reducible refine (hmod2.out _).mono ?_); rintro e w6 ⟨rfl, rfl⟩))
                  | (refine wpList_append_terms rfl (.tmp 72) (.tmp 76) rfl wr.heap.size v4 (ts.take a) [(tn, tms, sm)] (fun t ht => by obtain rfl : t = (tn, tms, sm) := (by simpa using ht); exact hl17.out) rfl (hv5.alloc _) hn4 ⟨w5.heap.size, 0, none⟩ 1 (by rfl) (one_flat _ _) (by rw [hlen.out]; simp <;> omega) (by have := hB5.size; simp <;> omega) ?_; intro vx wx hvx hnx hG6; have hBx := (hB5.alloc hB5.size _).grown hG6 (by have := hB5.size; simp <;> omega) hv5.blk; have hMx := hM'.out.below hBx hlt1)
                  | (refine wpList_mkslice rfl 28 (.tmp 75) rfl (.agg (tcl (tn, tms, sm)).toArray) _ rfl (mkT1 tn tms hl17.out sm _) ?_)
                  | (refine wpList_build_of rfl 56 #[(0, .tmp 73), (1, .tmp 74)] rfl (tcl (tn, tms, sm)).toArray ?_ ?_; (exact builtT tn tms hl17.out sm))
                  | (refine wpList_load_row rfl 53 _ rfl _ rfl 53 _ (0, 0) _ (hD5) Try.underlying53 rfl (row26 (d17 _ _ (hl17.out))) ?_))
                obtain ⟨g8, cap8, rfl, hc8, hM8⟩ := hv8.mn hn8
                have hfi2 := hfin.out
                rw [hdn] at hfi2
                rw [hfi2] at hM8 hc8 ⊢
                go_ret
                exact ⟨⟨g8, cap8, rfl, hc8, hM8.weak hBW.out⟩, hBw'.out.trans (hB8.mono hBw'.out.size)⟩
              · go_wp2_with (first
                  | (refine wpList_append_terms rfl (.tmp 78) (.tmp 82) rfl wr.heap.size vx (ts.take a ++ [(tn, tms, sm)]) (ts.drop (a + 1)) (fun t ht => good16 hG'.out t (List.mem_of_mem_drop ht)) rfl hvx hnx ⟨g, (a + 1) * 18, none⟩ (cap - (a + 1)) (by rw [hdl1.out]; first | rfl | simp) (fun i u hu => by rw [Addr.add_mid]; rw [tsl_drop ts (good16 hG'.out) (a + 1) (by rw [hL.out]; omega)] at hu; exact hMx.flat _ _ hu) (by rw [hdl1.out]; simp <;> omega) hBx.size ?_; intro v8 w8 hv8 hn8 hG8; have hB8 := hBx.grown hG8 hBx.size hvx.blk)
                  | (go_at_call 58; ((with_reducible refine (hmod2.out _).mono ?_); rintro e w6 ⟨rfl, rfl⟩))
                  | (refine wpList_append_terms rfl (.tmp 72) (.tmp 76) rfl wr.heap.size v4 (ts.take a) [(tn, tms, sm)] (fun t ht => by obtain rfl : t = (tn, tms, sm) := (by simpa using ht); exact hl17.out) rfl (hv5.alloc _) hn4 ⟨w5.heap.size, 0, none⟩ 1 (by rfl) (one_flat _ _) (by rw [hlen.out]; simp <;> omega) (by have := hB5.size; simp <;> omega) ?_; intro vx wx hvx hnx hG6; have hBx := (hB5.alloc hB5.size _).grown hG6 (by have := hB5.size; simp <;> omega) hv5.blk; have hMx := hM'.out.below hBx hlt1)
                  | (refine wpList_mkslice rfl 28 (.tmp 75) rfl (.agg (tcl (tn, tms, sm)).toArray) _ rfl (mkT1 tn tms hl17.out sm _) ?_)
                  | (refine wpList_build_of rfl 56 #[(0, .tmp 73), (1, .tmp 74)] rfl (tcl (tn, tms, sm)).toArray ?_ ?_; (exact builtT tn tms hl17.out sm))
                  | (refine wpList_load_row rfl 53 _ rfl _ rfl 53 _ (0, 0) _ (hD5) Try.underlying53 rfl (row26 (d17 _ _ (hl17.out))) ?_))
                obtain ⟨g8, cap8, rfl, hc8, hM8⟩ := hv8.mn hn8
                rw [hfin.out] at hM8 hc8 ⊢
                go_ret
                exact ⟨⟨g8, cap8, rfl, hc8, hM8.weak hBW.out⟩, hBw'.out.trans (hB8.mono hBw'.out.size)⟩
          · have htail := Lib.hid (show tailP (R := trmT) p (n, ms) z (ts.drop a) = (n, ms, z) :: ts.drop a by rw [hdrop.out]; exact if_neg (show ¬ trmT.key (tn, tms, tk) = (n, ms) from fun h => hkey (by injection h with h1 h2; exact ⟨h1, h2⟩)))
            have hmz := hmT z
            by_cases hn : tn = n
            · have hne : tms ≠ ms := fun h => hkey ⟨hn, h⟩
              obtain rfl : n = tn := hn.symm
              rw [decide_eq_false hne] at hE
              refine wp_region_quiet_below (by kernel_rfl) (by kernel_rfl) ?_
              iterate 9 (go_big_quiet_step (fail))
              go_big_quiet_want
              refine quiet_ld 53 (.tmp 56) rfl ⟨g, a * 18, none⟩ (by first | rfl | simp) _ (fun w' h => by obtain ⟨pp, rfl⟩ := h; exact ld1 _ _) ?_
              go_frame
              go_big_quiet_on
              go_big_quiet_want
              refine quiet_ld 53 (.tmp 6) rfl ⟨w.heap.size, 0, none⟩ rfl _ (fun w' h => by obtain ⟨pp, rfl⟩ := h; exact ld2 _ _) ?_
              go_frame
              go_big_quiet_on
              iterate 2 (go_big_quiet_step (fail))
              refine wpQuiet_nil ?_
              intro _ hw'
              obtain ⟨⟨dq, osq⟩, hw''⟩ := hw'
              subst hw''
              have hB5 := hB4.trans ((below_regrown w4 dq osq).mono hB4.size)
              have hv5 := hv4.below (below_regrown w4 dq osq)
              generalize Sort.grow (redrawn w4 dq) osq = w5 at hB5 hv5 ⊢
              have hM5 := hM'.out.below hB5 hlt1
              have hD5 := hD'.out.below hB5 hD'.out.lt
              by_cases hcx : cap = a
              · exact absurd hcx (by omega)
              · go_wp2_with (first
                  | (refine wpList_append_terms rfl (.tmp 90) (.tmp 93) rfl wr.heap.size v6 (ts.take a ++ [(n, ms, z)]) (ts.drop a) (fun t ht => good16 hG'.out t (List.mem_of_mem_drop ht)) rfl hv6 hn6 ⟨g, a * 18, none⟩ (cap - a) (by rw [hdl.out]; first | rfl | simp) (fun i u hu => by rw [Addr.add_mid]; rw [tsl_drop ts (good16 hG'.out) a (by rw [hL.out]; exact hbl)] at hu; exact hM6.flat _ _ hu) (by rw [hdl.out]; simp <;> omega) hB6.size ?_; intro v8 w8 hv8 hn8 hG8; have hB8 := hB6.grown hG8 hB6.size hv6.blk)
                  | (refine wpList_append_terms rfl (.tmp 84) (.tmp 88) rfl wr.heap.size v4 (ts.take a) [(n, ms, z)] (fun t ht => by obtain rfl : t = (n, ms, z) := (by simpa using ht); exact hl17.out) rfl (hv5.alloc _) hn4 ⟨w5.heap.size, 0, none⟩ 1 (by rfl) (one_flat _ _) (by rw [hlen.out]; simp <;> omega) (by have := hB5.size; simp <;> omega) ?_; intro v6 w6 hv6 hn6 hG6; have hB6 := (hB5.alloc hB5.size _).grown hG6 (by have := hB5.size; simp <;> omega) hv5.blk; have hM6 := hM'.out.below hB6 hlt1)
                  | (refine wpList_mkslice rfl 28 (.tmp 87) rfl (.agg (tcl (n, ms, z)).toArray) _ rfl (hmz _) ?_)
                  | (refine wpList_build_of rfl 56 #[(0, .tmp 85), (1, .tmp 86)] rfl (tcl (n, ms, z)).toArray ?_ ?_; (exact builtT n ms hl17.out z))
                  | (refine wpList_load_row rfl 53 _ rfl _ rfl 53 _ (0, 0) _ (hD5) Try.underlying53 rfl (row26 (d17 _ _ (hl17.out))) ?_))
                obtain ⟨g8, cap8, rfl, hc8, hM8⟩ := hv8.mn hn8
                have hfin := Lib.hid (show ts.take a ++ [(n, ms, z)] ++ ts.drop a = R by rw [hR.out, hput.out, htail.out, List.append_assoc]; rfl)
                rw [hfin.out] at hM8 hc8 ⊢
                go_ret
                exact ⟨⟨g8, cap8, rfl, hc8, hM8.weak hBW.out⟩, hBw'.out.trans (hB8.mono hBw'.out.size)⟩
            · have hne : (tn == n) = false := by simpa using hn
              refine wp_region_quiet_below (by kernel_rfl) (by kernel_rfl) ?_
              iterate 9 (go_big_quiet_step (fail))
              go_big_quiet_want
              refine quiet_ld 53 (.tmp 56) rfl ⟨g, a * 18, none⟩ (by first | rfl | simp) _ (fun w' h => by obtain ⟨pp, rfl⟩ := h; exact ld1 _ _) ?_
              go_frame
              go_big_quiet_on
              go_big_quiet_want
              refine quiet_ld 53 (.tmp 6) rfl ⟨w.heap.size, 0, none⟩ rfl _ (fun w' h => by obtain ⟨pp, rfl⟩ := h; exact ld2 _ _) ?_
              go_frame
              go_big_quiet_on
              iterate 2 (go_big_quiet_step (fail))
              refine wpQuiet_nil ?_
              intro _ hw'
              obtain ⟨⟨dq, osq⟩, hw''⟩ := hw'
              subst hw''
              have hB5 := hB4.trans ((below_regrown w4 dq osq).mono hB4.size)
              have hv5 := hv4.below (below_regrown w4 dq osq)
              generalize Sort.grow (redrawn w4 dq) osq = w5 at hB5 hv5 ⊢
              have hM5 := hM'.out.below hB5 hlt1
              have hD5 := hD'.out.below hB5 hD'.out.lt
              by_cases hcx : cap = a
              · exact absurd hcx (by omega)
              · go_wp2_with (first
                  | (refine wpList_append_terms rfl (.tmp 90) (.tmp 93) rfl wr.heap.size v6 (ts.take a ++ [(n, ms, z)]) (ts.drop a) (fun t ht => good16 hG'.out t (List.mem_of_mem_drop ht)) rfl hv6 hn6 ⟨g, a * 18, none⟩ (cap - a) (by rw [hdl.out]; first | rfl | simp) (fun i u hu => by rw [Addr.add_mid]; rw [tsl_drop ts (good16 hG'.out) a (by rw [hL.out]; exact hbl)] at hu; exact hM6.flat _ _ hu) (by rw [hdl.out]; simp <;> omega) hB6.size ?_; intro v8 w8 hv8 hn8 hG8; have hB8 := hB6.grown hG8 hB6.size hv6.blk)
                  | (refine wpList_append_terms rfl (.tmp 84) (.tmp 88) rfl wr.heap.size v4 (ts.take a) [(n, ms, z)] (fun t ht => by obtain rfl : t = (n, ms, z) := (by simpa using ht); exact hl17.out) rfl (hv5.alloc _) hn4 ⟨w5.heap.size, 0, none⟩ 1 (by rfl) (one_flat _ _) (by rw [hlen.out]; simp <;> omega) (by have := hB5.size; simp <;> omega) ?_; intro v6 w6 hv6 hn6 hG6; have hB6 := (hB5.alloc hB5.size _).grown hG6 (by have := hB5.size; simp <;> omega) hv5.blk; have hM6 := hM'.out.below hB6 hlt1)
                  | (refine wpList_mkslice rfl 28 (.tmp 87) rfl (.agg (tcl (n, ms, z)).toArray) _ rfl (hmz _) ?_)
                  | (refine wpList_build_of rfl 56 #[(0, .tmp 85), (1, .tmp 86)] rfl (tcl (n, ms, z)).toArray ?_ ?_; (exact builtT n ms hl17.out z))
                  | (refine wpList_load_row rfl 53 _ rfl _ rfl 53 _ (0, 0) _ (hD5) Try.underlying53 rfl (row26 (d17 _ _ (hl17.out))) ?_))
                obtain ⟨g8, cap8, rfl, hc8, hM8⟩ := hv8.mn hn8
                have hfin := Lib.hid (show ts.take a ++ [(n, ms, z)] ++ ts.drop a = R by rw [hR.out, hput.out, htail.out, List.append_assoc]; rfl)
                rw [hfin.out] at hM8 hc8 ⊢
                go_ret
                exact ⟨⟨g8, cap8, rfl, hc8, hM8.weak hBW.out⟩, hBw'.out.trans (hB8.mono hBw'.out.size)⟩
        · obtain rfl : a = l := by omega
          have hdnil : ts.drop a = [] := List.drop_eq_nil_of_le (by rw [hL.out]; exact Nat.le_refl _)
          have htail := Lib.hid (show tailP (R := trmT) p (n, ms) z (ts.drop a) = (n, ms, z) :: ts.drop a by rw [hdnil]; rfl)
          have hmz := mkT1 n ms hl17.out z
          refine wp_region_quiet_below (by kernel_rfl) (by kernel_rfl) ?_
          iterate 13 (go_big_quiet_step (fail))
          refine wpQuiet_nil ?_
          intro _ hw'
          obtain ⟨⟨dq, osq⟩, hw''⟩ := hw'
          subst hw''
          have hB5 := hB4.trans ((below_regrown w4 dq osq).mono hB4.size)
          have hv5 := hv4.below (below_regrown w4 dq osq)
          generalize Sort.grow (redrawn w4 dq) osq = w5 at hB5 hv5 ⊢
          have hM5 := hM'.out.below hB5 hlt1
          have hD5 := hD'.out.below hB5 hD'.out.lt
          by_cases hcx : cap = a
          · have hdn : ts.drop a = [] := List.drop_eq_nil_of_le (by rw [hL.out]; omega)
            obtain rfl : a = cap := hcx.symm
            go_wp2_with (first
              | (refine wpList_append_terms rfl (.tmp 90) (.tmp 93) rfl wr.heap.size v6 (ts.take a ++ [(n, ms, z)]) [] (fun t ht => by cases ht) rfl hv6 hn6 _ _ (by rfl) (fun i u hu => by simp [tsl] at hu) (by simp [hlen.out] <;> omega) hB6.size ?_; intro v8 w8 hv8 hn8 hG8; have hB8 := hB6.grown hG8 hB6.size hv6.blk)
              | (refine wpList_append_terms rfl (.tmp 84) (.tmp 88) rfl wr.heap.size v4 (ts.take a) [(n, ms, z)] (fun t ht => by obtain rfl : t = (n, ms, z) := (by simpa using ht); exact hl17.out) rfl (hv5.alloc _) hn4 ⟨w5.heap.size, 0, none⟩ 1 (by rfl) (one_flat _ _) (by rw [hlen.out]; simp <;> omega) (by have := hB5.size; simp <;> omega) ?_; intro v6 w6 hv6 hn6 hG6; have hB6 := (hB5.alloc hB5.size _).grown hG6 (by have := hB5.size; simp <;> omega) hv5.blk; have hM6 := hM'.out.below hB6 hlt1)
              | (refine wpList_mkslice rfl 28 (.tmp 87) rfl (.agg (tcl (n, ms, z)).toArray) _ rfl (hmz _) ?_)
              | (refine wpList_build_of rfl 56 #[(0, .tmp 85), (1, .tmp 86)] rfl (tcl (n, ms, z)).toArray ?_ ?_; (exact builtT n ms hl17.out z))
              | (refine wpList_load_row rfl 53 _ rfl _ rfl 53 _ (0, 0) _ (hD5) Try.underlying53 rfl (row26 (d17 _ _ (hl17.out))) ?_))
            obtain ⟨g8, cap8, rfl, hc8, hM8⟩ := hv8.mn hn8
            have hfin := Lib.hid (show ts.take a ++ [(n, ms, z)] ++ ts.drop a = R by rw [hR.out, hput.out, htail.out, List.append_assoc]; rfl)
            have hfi2 := hfin.out
            rw [hdn] at hfi2
            rw [hfi2] at hM8 hc8 ⊢
            go_ret
            exact ⟨⟨g8, cap8, rfl, hc8, hM8.weak hBW.out⟩, hBw'.out.trans (hB8.mono hBw'.out.size)⟩
          · have hdn : ts.drop a = [] := List.drop_eq_nil_of_le (by rw [hL.out]; omega)
            go_wp2_with (first
              | (refine wpList_append_terms rfl (.tmp 90) (.tmp 93) rfl wr.heap.size v6 (ts.take a ++ [(n, ms, z)]) [] (fun t ht => by cases ht) rfl hv6 hn6 _ _ (by rfl) (fun i u hu => by simp [tsl] at hu) (by simp [hlen.out] <;> omega) hB6.size ?_; intro v8 w8 hv8 hn8 hG8; have hB8 := hB6.grown hG8 hB6.size hv6.blk)
              | (refine wpList_append_terms rfl (.tmp 84) (.tmp 88) rfl wr.heap.size v4 (ts.take a) [(n, ms, z)] (fun t ht => by obtain rfl : t = (n, ms, z) := (by simpa using ht); exact hl17.out) rfl (hv5.alloc _) hn4 ⟨w5.heap.size, 0, none⟩ 1 (by rfl) (one_flat _ _) (by rw [hlen.out]; simp <;> omega) (by have := hB5.size; simp <;> omega) ?_; intro v6 w6 hv6 hn6 hG6; have hB6 := (hB5.alloc hB5.size _).grown hG6 (by have := hB5.size; simp <;> omega) hv5.blk; have hM6 := hM'.out.below hB6 hlt1)
              | (refine wpList_mkslice rfl 28 (.tmp 87) rfl (.agg (tcl (n, ms, z)).toArray) _ rfl (hmz _) ?_)
              | (refine wpList_build_of rfl 56 #[(0, .tmp 85), (1, .tmp 86)] rfl (tcl (n, ms, z)).toArray ?_ ?_; (exact builtT n ms hl17.out z))
              | (refine wpList_load_row rfl 53 _ rfl _ rfl 53 _ (0, 0) _ (hD5) Try.underlying53 rfl (row26 (d17 _ _ (hl17.out))) ?_))
            obtain ⟨g8, cap8, rfl, hc8, hM8⟩ := hv8.mn hn8
            have hfin := Lib.hid (show ts.take a ++ [(n, ms, z)] ++ ts.drop a = R by rw [hR.out, hput.out, htail.out, List.append_assoc]; rfl)
            have hfi2 := hfin.out
            rw [hdn] at hfi2
            rw [hfi2] at hM8 hc8 ⊢
            go_ret
            exact ⟨⟨g8, cap8, rfl, hc8, hM8.weak hBW.out⟩, hBw'.out.trans (hB8.mono hBw'.out.size)⟩
end Go.Proofs.Ytbibmncepjmgcaa
