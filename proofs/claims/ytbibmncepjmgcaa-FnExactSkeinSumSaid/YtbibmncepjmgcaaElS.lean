/- The model's IsElement. -/
import Derived.Test.YtbibmncepjmgcaaElL
import Derived.Lib.QuietBelow
import Derived.BigQuiet
namespace Go.Proofs.Ytbibmncepjmgcaa
open Go.RowKit Go.BigFrame
set_option linter.unusedVariables false
/-- A row's load, as an equation, from whatever address. -/
theorem loadVar_at {P : Program} (ty : TypeId) (ad : Addr) (cs : List Value) (d : TypeDesc) (hu : P.underlying ty = some d) (hd : d.isRow = true) (hi : (P.info? ty).map (·.size) = some cs.length) (w : World) (hc : ∀ j v, cs[j]? = some v → w.cell? (ad.add j) = some v) :
    (loadVar ty ad).run P w = .ok (.agg cs.toArray) w := by
  have hl : (loadCells ad cs.length).run P w = .ok cs.toArray w := run_loadCells_list (P := P) w ad cs hc
  cases hq : P.info? ty with
  | none => simp [hq] at hi
  | some i =>
    have hs : i.size = cs.length := by simpa [hq] using hi
    have hagg : (isAgg ty).run P w = .ok true w := by
      unfold isAgg
      rw [Sem.run_bind, run_underlying hu w]
      cases d <;> simp_all
    simp [loadVar, Sem.run_bind, hagg, sizeOf, typeInfo, hq, hs, hl]
/-- A load whose run is known in every world of the class. -/
theorem quiet_load {P : Program} {ops : Array Oper} {C : World → Prop} {Q : Act → Prop} {a : Act} {o : Oper} {rest : List Oper} (ty : TypeId) (x : Operand) (ho : o.op = .load ty x) (hw : Region.wanted o (yielded ops a.tmps) = true)
    (ad : Addr) (hx : a.eval x = .pointer (some ad)) (v : Value) (hv : ∀ w, C w → (loadVar ty ad).run P w = .ok v w) (h : wpQuiet P ops C Q rest (a.put o.dst v)) : wpQuiet P ops C Q (o :: rest) a := by
  refine wpQuiet_step (fun K hK => ?_)
  rw [if_pos hw]
  refine ⟨v, fun w hc => ?_, hK _ h⟩
  unfold Oper.quietAt execOp
  simp only [ho, hx, Instr.loadAt, Instr.sureAddr, Sem.run_bind, Sem.run_pure, Result.andThen_ok, hv w hc]
  exact ⟨rfl, rfl⟩
theorem quiet_ld {P : Program} {C : World → Prop} {a : Act} {o : Oper} {K : Act → Prop} (ty : TypeId) (x : Operand) (ho : o.op = .load ty x)
    (ad : Addr) (hx : a.eval x = .pointer (some ad)) (v : Value) (hv : ∀ w, C w → (loadVar ty ad).run P w = .ok v w) (h : K (a.put o.dst v)) : o.quiet P a C K := by
  refine ⟨v, fun w hc => ?_, h⟩
  unfold Oper.quietAt execOp
  simp only [ho, hx, Instr.loadAt, Instr.sureAddr, Sem.run_bind, Sem.run_pure, Result.andThen_ok, hv w hc]
  exact ⟨rfl, rfl⟩
theorem loadD_grown (n : Int) (ms : List Int) (hl : ms.length = 16) (ad : Addr) (w : World) (hc : ∀ j v, (dcells n ms).toList[j]? = some v → w.cell? (ad.add j) = some v) :
    ∀ d os, (loadVar 53 ad).run Try.prog (Sort.grow (redrawn w d) os) = .ok (.agg (dcells n ms)) (Sort.grow (redrawn w d) os) := fun d os => by
  have := loadVar_at (P := Try.prog) 53 ad (dcells n ms).toList _ Try.underlying53 rfl (by rw [dl17 hl]; kernel_rfl) (Sort.grow (redrawn w d) os) (fun j v h => cell_regrown (hc j v h) d os)
  simpa using this
set_option maxRecDepth 100000 in
set_option maxHeartbeats 4000000 in
theorem elS_loop (p c n : Int) (q : Option Addr) (cap : Nat) (ts : List Tm) (hts : ∀ t ∈ ts, t.2.1.length = 16 ∧ Bytes t.2.1) (w : World) (hR : RdT w q ts) (hp0 : -9223372036854775808 ≤ p ∧ p ≤ 9223372036854775807) (hp : (primeB p && decide (0 ≤ c ∧ c < p)) = true) (n1 : 1 ≤ n) (n8 : n ≤ 8) (h140 : ts.length ≤ 140) :
    Calls Try.prog 30 #[.agg (ecl p c n (.slice q ts.length cap))] w fun e w' => e = .returned (.bool (elT n p ts ts.length)) ∧ Below w.heap.size w w' := by
  rw [Bool.and_eq_true, decide_eq_true_iff] at hp
  obtain ⟨hpr, c0, c1⟩ := hp
  have hm := Lib.hid (fun w => primeS_any p w hp0)
  have p2 : 2 ≤ p := by unfold primeB at hpr; rw [decide_eq_true_iff] at hpr; exact hpr.1
  have p97 : p ≤ 97 := by unfold primeB at hpr; rw [decide_eq_true_iff] at hpr; exact hpr.2.1
  rw [hpr] at hm
  obtain ⟨l, hl⟩ : ∃ l, ts.length = l := ⟨_, rfl⟩
  have hR' := Lib.hid hR
  have hT := Lib.hid hts
  rw [hl] at h140 ⊢
  have hL := Lib.hid hl
  unfold ecl
  clear hpr hR hts hl hp0
  go_enter Try.func30, Try.ntmps30
  go_wp2_with (first
    | (go_at_call 65; ((with_reducible refine (hm.out _).mono ?_); rintro e w1 ⟨rfl, hw⟩; subst hw))
    | (go_at_call 54; ((with_reducible refine (inS_t c 0 (p - 1) _ (by omega) (by omega)).mono ?_); rintro e w2 ⟨rfl, rfl⟩))
    | (go_at_call 54; ((with_reducible refine (inS_t n 1 8 _ (by omega) (by omega)).mono ?_); rintro e w2 ⟨rfl, rfl⟩)))
  clear hm
  go_loopw [3] (fun i wr => ∃ k : Nat, k ≤ l ∧ i = .int .i64 k ∧ elT n p ts k = true ∧ Own wr w.heap.size (ecl p c n (.slice q l cap)) 30 ∧ Below w.heap.size w wr) (fun i _ => ((l : Int) - intOf i).toNat)
  case atStart => exact ⟨0, by omega, rfl, rfl, Own.new _ _ _, (Below.refl _ _).alloc (Nat.le_refl _) _⟩
  case round =>
    obtain ⟨k, hk, rfl, hE, hO, hB⟩ := hrel
    have y3 : wr.cell? ⟨w.heap.size, 3, none⟩ = some (.slice q l cap) := hO.cell 3
    by_cases hlt : k < l
    · have hkt : k < ts.length := by rw [hL.out]; exact hlt
      have hltI : (k : Int) < l := by omega
      cases q with
      | none => exfalso; have h1 := hR'.out.nil rfl; rw [h1] at hkt; simp at hkt
      | some a =>
        have hc := (hR'.out.below hB).cell a rfl k hkt
        have hte := hT.out (ts.getD k zT) (by rw [List.getD_eq_getElem?_getD, List.getElem?_eq_getElem hkt]; exact List.getElem_mem hkt)
        obtain ⟨⟨tn, tms, tk⟩, ht⟩ : ∃ t, ts.getD k zT = t := ⟨_, rfl⟩
        have hst := Lib.hid (show elT n p ts (k + 1) = (tOk n p (tn, tms, tk) && (decide (k = 0) || ltT (ts.getD (k - 1) zT) (tn, tms, tk))) by rw [elT, hE, Bool.true_and, ht])
        have hno := Lib.hid (fun (h : elT n p ts (k + 1) = false) => elT_no h (show k + 1 ≤ l by omega))
        rw [ht] at hc hte
        obtain ⟨ht16, htb⟩ := hte
        have hl17 := Lib.hid (show tms.length = 16 from ht16)
        have hd17 := Lib.hid (dl17 (n := tn) ht16)
        have qc := Lib.hid (show ∀ i v, (dcells tn tms).toList[i]? = some v → wr.cell? ((a.add (k * 18)).add i) = some v from fun i v hi => hc i v (by show ((dcells tn tms).toList ++ [_])[i]? = _; rw [List.getElem?_append_left (List.getElem?_eq_some_iff.1 hi).1]; exact hi))
        have qk := hc 17 (.int .i64 tk) (by show ((dcells tn tms).toList ++ [_])[17]? = _; rw [List.getElem?_append_right (by rw [hd17.out]; exact Nat.le_refl _), hd17.out]; rfl)
        have hID := Lib.hid (fun w => l01Is_dec tn tms ht16 htb w)
        have hok := Lib.hid (show tOk n p (tn, tms, tk) = (decide (tn = n) && isD tn tms && decide (1 ≤ tk ∧ tk < p)) from rfl)
        have hlt0 := hO.lt
        have hO' := Lib.hid hO
        have hB' := Lib.hid hB
        have htb' := Lib.hid htb
        have hE' := Lib.hid hE
        have ht' := Lib.hid ht
        have hkt' := Lib.hid hkt
        clear hE ht16 htb ht hkt hO hB hc
        go_wp2_with (first
          | (refine wpList_load_at rfl 53 (.tmp 41) rfl (a.add (k * 18)) (by first | rfl | simp) (dcells tn tms).toList _ qc.out Try.underlying53 rfl (by rw [hd17.out]; kernel_rfl) ?_)
          | (refine wpList_store_own rfl 53 _ _ rfl _ _ rfl rfl 53 _ (Own.new wr _ _) (row26 (d17 _ _ (hl17.out))) (z_eq (d17 _ _ hl17.out)) (dcells_one _ _) ?_; intro w2 hO2 hN2))
        have hX2 := (hO'.out.alloc (.cells zcells 53)).only hN2 (Nat.ne_of_lt hlt0)
        have hB2 : Below wr.heap.size wr w2 := ((Below.refl wr.heap.size wr).alloc (Nat.le_refl _) _).trans (hN2.below.mono (Nat.le_refl _))
        have b2 := hB'.out.trans (hB2.mono hB'.out.size)
        have x0 := cell_regrown (show w2.cell? ⟨w.heap.size, 0, none⟩ = some (.int .i64 p) from hX2.cell 0)
        have x2 := cell_regrown (show w2.cell? ⟨w.heap.size, 2, none⟩ = some (.int .i64 n) from hX2.cell 2)
        have x3 := cell_regrown (show w2.cell? ⟨w.heap.size, 3, none⟩ = some (.slice (some a) l cap) from hX2.cell 3)
        have z0 := cell_regrown (show w2.cell? ⟨wr.heap.size, 0, none⟩ = some (.int .i64 tn) from hO2.cell 0)
        have hltq : ((a.add (k * 18)).add 17).block < wr.heap.size := block_lt_of_cell qk
        have hq3 : w2.cell? ((a.add (k * 18)).add 17) = some (.int .i64 tk) := by rw [hB2.cell hltq]; exact qk
        have qk2 := cell_regrown (show w2.cell? { block := (a.add (k * 18)).block, off := (a.add (k * 18)).off + 17, spot := none } = some (.int .i64 tk) from hq3)
        clear hltq hq3
        have ld := loadD_grown tn tms hl17.out ⟨wr.heap.size, 0, none⟩ w2 (fun i v hi => by rw [Addr.add_mid, Nat.zero_add]; exact (hO2.cell i).trans (by rw [← hi]; simp))
        have cI : ∀ d os, Calls Try.prog 66 #[.agg (dcells tn tms)] (Sort.grow (redrawn w2 d) os) fun e w'' => e = .returned (.bool (isD tn tms)) ∧ ∃ p : Regrown, w'' = Sort.grow (redrawn w2 p.d) p.os := fun d os => Calls.regrown_of (hID.out _)
        clear qk y3
        have cN : ∀ (b : Bool), (decide (1 ≤ tk ∧ tk ≤ p - 1) = b) → ∀ d os, Calls Try.prog 54 #[.int .i64 tk, .int .i64 1, .int .i64 (p - 1)] (Sort.grow (redrawn w2 d) os) fun e w'' => e = .returned (.bool b) ∧ ∃ p : Regrown, w'' = Sort.grow (redrawn w2 p.d) p.os := fun b hb d os => Calls.regrown_of (by
          cases b with
          | true => 
            have hb' : 1 ≤ tk ∧ tk ≤ p - 1 := by simpa using hb
            exact (inS_t tk 1 (p - 1) _ hb'.1 hb'.2).mono fun e w' h => ⟨h.1, h.2 ▸ Below.refl _ _⟩
          | false =>
            have hb' : ¬ (1 ≤ tk ∧ tk ≤ p - 1) := by simpa using hb
            exact (inS_f tk 1 (p - 1) _ (by omega)).mono fun e w' h => ⟨h.1, h.2 ▸ Below.refl _ _⟩)
        cases hb : isD tn tms with
        | false =>
          rw [hb] at cI hok
          have hF := Lib.hid (hno.out (by rw [hst.out, hok.out, Bool.and_false, Bool.false_and, Bool.false_and]))
          clear cN hst hno hok hb
          refine wp_region_quiet_below (by kernel_rfl) (by kernel_rfl) ?_
          go_big_quiet_want
          refine quiet_ld 53 (.tmp 4) rfl ⟨wr.heap.size, 0, none⟩ rfl _ (fun w' h => by obtain ⟨pp, rfl⟩ := h; exact ld _ _) ?_
          go_frame
          go_big_quiet_on
          iterate 38 (go_big_quiet_step (first | exact cI _ _))
          refine wpQuiet_nil ?_
          intro _ hw'
          obtain ⟨⟨dq, osq⟩, hw''⟩ := hw'
          subst hw''
          have b3 := b2.trans ((below_regrown w2 dq osq).mono b2.size)
          go_wp2
          go_ret
          exact ⟨by rw [hF.out]; rfl, b3⟩
        | true =>
          rw [hb] at cI hok
          by_cases e1 : tn = n
          · have e1' := e1.symm
            subst e1'
            have en : (n != n) = false := by simp
            by_cases e2 : 1 ≤ tk ∧ tk ≤ p - 1
            · have cN' := cN true (by simpa using e2)
              have hK := Lib.hid (show elT n p ts (k + 1) = (decide (k = 0) || ltT (ts.getD (k - 1) zT) (n, tms, tk)) by rw [hst.out, hok.out, decide_eq_true (rfl : n = n), decide_eq_true (show 1 ≤ tk ∧ tk < p by omega)]; rfl)
              clear cN hst hok
              by_cases hk0 : k = 0
              · subst hk0
                have e0 : a.add (0 * 18) = a := by simp [Addr.add]
                rw [e0] at qk2
                have hN := Lib.hid (show elT n p ts (0 + 1) = true by rw [hK.out]; rfl)
                clear hK hno
                refine wp_region_quiet_below (by kernel_rfl) (by kernel_rfl) ?_
                go_big_quiet_want
                refine quiet_ld 53 (.tmp 4) rfl ⟨wr.heap.size, 0, none⟩ rfl _ (fun w' h => by obtain ⟨pp, rfl⟩ := h; exact ld _ _) ?_
                go_frame
                go_big_quiet_on
                iterate 38 (go_big_quiet_step (first | exact cI _ _ | exact cN' _ _))
                refine wpQuiet_nil ?_
                intro _ hw'
                obtain ⟨⟨dq, osq⟩, hw''⟩ := hw'
                subst hw''
                have b3 := b2.trans ((below_regrown w2 dq osq).mono b2.size)
                have hX3 := hX2.below (below_regrown w2 dq osq) hX2.lt
                generalize Sort.grow (redrawn w2 dq) osq = w3 at hX3 b3 ⊢
                go_wp2
                go_roundw
                case rel => exact ⟨0 + 1, by omega, by go_num, hN.out, hX3, b3⟩
                case measure => simp [intOf]; omega
              · obtain ⟨j, rfl⟩ : ∃ j, k = j + 1 := ⟨k - 1, by omega⟩
                have hjt : j < ts.length := by have := hkt'.out; omega
                have hq := elT_ok hE'.out j (by omega)
                have hsd := hT.out (ts.getD j zT) (by rw [List.getD_eq_getElem?_getD, List.getElem?_eq_getElem hjt]; exact List.getElem_mem hjt)
                have hcj := (hR'.out.below b2).cell a rfl j hjt
                rw [show j + 1 - 1 = j by omega, decide_eq_false hk0, Bool.false_or] at hK
                obtain ⟨⟨sn, sms, sk⟩, hs⟩ : ∃ t, ts.getD j zT = t := ⟨_, rfl⟩
                rw [hs] at hq hsd hcj hK
                obtain ⟨hs16, hsb⟩ := hsd
                rw [tOk, Bool.and_eq_true, Bool.and_eq_true] at hq
                have hsz := isD_size hq.1.2
                have cL : ∀ d os, Calls Try.prog 67 #[.agg (dcells sn sms), .agg (dcells n tms)] (Sort.grow (redrawn w2 d) os) fun e w'' => e = .returned (.bool (ltT (sn, sms, sk) (n, tms, tk))) ∧ ∃ p : Regrown, w'' = Sort.grow (redrawn w2 p.d) p.os := fun d os => Calls.regrown_of (lessS_any sn n sms tms hs16 hl17.out hsb htb'.out hsz.1 hsz.2 n1 n8 _)
                have ld2 := loadD_grown sn sms hs16 (a.add (j * 18)) w2 (fun i v hi => hcj i v (by show ((dcells sn sms).toList ++ [_])[i]? = _; rw [List.getElem?_append_left (List.getElem?_eq_some_iff.1 hi).1]; exact hi))
                have hj1 : ((j : Int) + 1) - 1 = (j : Int) := by omega
                have hk2 : (0 : Int) < (j : Int) + 1 := by omega
                have hjl : (j : Int) < l := by omega
                have hjl2 : j < l := by omega
                have hwj : IntKind.i64.wrap (j : Int) = (j : Int) := IntWalk.i64_in _ (by omega)
                clear hq hs hjt hsz hs16 hsb hcj
                cases hlt2 : ltT (sn, sms, sk) (n, tms, tk) with
                | true =>
                  rw [hlt2] at cL hK
                  have hN := hK
                  clear hK hno
                  refine wp_region_quiet_below (by kernel_rfl) (by kernel_rfl) ?_
                  go_big_quiet_want
                  refine quiet_ld 53 (.tmp 4) rfl ⟨wr.heap.size, 0, none⟩ rfl _ (fun w' h => by obtain ⟨pp, rfl⟩ := h; exact ld _ _) ?_
                  go_frame
                  go_big_quiet_on
                  iterate 32 (go_big_quiet_step (first | exact cI _ _ | exact cN' _ _ | exact cL _ _))
                  go_big_quiet_want
                  refine quiet_ld 53 (.tmp 75) rfl (a.add (j * 18)) (by first | rfl | simp) _ (fun w' h => by obtain ⟨pp, rfl⟩ := h; exact ld2 _ _) ?_
                  go_frame
                  go_big_quiet_on
                  go_big_quiet_want
                  refine quiet_ld 53 (.tmp 4) rfl ⟨wr.heap.size, 0, none⟩ rfl _ (fun w' h => by obtain ⟨pp, rfl⟩ := h; exact ld _ _) ?_
                  go_frame
                  go_big_quiet_on
                  iterate 4 (go_big_quiet_step (first | exact cI _ _ | exact cN' _ _ | exact cL _ _))
                  refine wpQuiet_nil ?_
                  intro _ hw'
                  obtain ⟨⟨dq, osq⟩, hw''⟩ := hw'
                  subst hw''
                  have b3 := b2.trans ((below_regrown w2 dq osq).mono b2.size)
                  have hX3 := hX2.below (below_regrown w2 dq osq) hX2.lt
                  generalize Sort.grow (redrawn w2 dq) osq = w3 at hX3 b3 ⊢
                  go_wp2
                  go_roundw
                  case rel => exact ⟨j + 1 + 1, by omega, by go_num, hN.out, hX3, b3⟩
                  case measure => simp [intOf]; omega
                | false =>
                  rw [hlt2] at cL hK
                  have hF := Lib.hid (hno.out hK.out)
                  clear hK hno
                  refine wp_region_quiet_below (by kernel_rfl) (by kernel_rfl) ?_
                  go_big_quiet_want
                  refine quiet_ld 53 (.tmp 4) rfl ⟨wr.heap.size, 0, none⟩ rfl _ (fun w' h => by obtain ⟨pp, rfl⟩ := h; exact ld _ _) ?_
                  go_frame
                  go_big_quiet_on
                  iterate 32 (go_big_quiet_step (first | exact cI _ _ | exact cN' _ _ | exact cL _ _))
                  go_big_quiet_want
                  refine quiet_ld 53 (.tmp 75) rfl (a.add (j * 18)) (by first | rfl | simp) _ (fun w' h => by obtain ⟨pp, rfl⟩ := h; exact ld2 _ _) ?_
                  go_frame
                  go_big_quiet_on
                  go_big_quiet_want
                  refine quiet_ld 53 (.tmp 4) rfl ⟨wr.heap.size, 0, none⟩ rfl _ (fun w' h => by obtain ⟨pp, rfl⟩ := h; exact ld _ _) ?_
                  go_frame
                  go_big_quiet_on
                  iterate 4 (go_big_quiet_step (first | exact cI _ _ | exact cN' _ _ | exact cL _ _))
                  refine wpQuiet_nil ?_
                  intro _ hw'
                  obtain ⟨⟨dq, osq⟩, hw''⟩ := hw'
                  subst hw''
                  have b3 := b2.trans ((below_regrown w2 dq osq).mono b2.size)
                  go_wp2
                  go_ret
                  exact ⟨by rw [hF.out]; rfl, b3⟩
            · have cN' := cN false (by simpa using e2)
              have hF := Lib.hid (hno.out (by rw [hst.out, hok.out, decide_eq_false (show ¬ (1 ≤ tk ∧ tk < p) by omega), Bool.and_false, Bool.false_and]))
              clear cN hst hno hok
              refine wp_region_quiet_below (by kernel_rfl) (by kernel_rfl) ?_
              go_big_quiet_want
              refine quiet_ld 53 (.tmp 4) rfl ⟨wr.heap.size, 0, none⟩ rfl _ (fun w' h => by obtain ⟨pp, rfl⟩ := h; exact ld _ _) ?_
              go_frame
              go_big_quiet_on
              iterate 38 (go_big_quiet_step (first | exact cI _ _ | exact cN' _ _))
              refine wpQuiet_nil ?_
              intro _ hw'
              obtain ⟨⟨dq, osq⟩, hw''⟩ := hw'
              subst hw''
              have b3 := b2.trans ((below_regrown w2 dq osq).mono b2.size)
              go_wp2
              go_ret
              exact ⟨by rw [hF.out]; rfl, b3⟩
          · have en : (tn != n) = true := by simpa using e1
            have hF := Lib.hid (hno.out (by rw [hst.out, hok.out, decide_eq_false e1, Bool.false_and, Bool.false_and, Bool.false_and]))
            clear cN hst hno hok
            refine wp_region_quiet_below (by kernel_rfl) (by kernel_rfl) ?_
            go_big_quiet_want
            refine quiet_ld 53 (.tmp 4) rfl ⟨wr.heap.size, 0, none⟩ rfl _ (fun w' h => by obtain ⟨pp, rfl⟩ := h; exact ld _ _) ?_
            go_frame
            go_big_quiet_on
            iterate 38 (go_big_quiet_step (first | exact cI _ _))
            refine wpQuiet_nil ?_
            intro _ hw'
            obtain ⟨⟨dq, osq⟩, hw''⟩ := hw'
            subst hw''
            have b3 := b2.trans ((below_regrown w2 dq osq).mono b2.size)
            go_wp2
            go_ret
            exact ⟨by rw [hF.out]; rfl, b3⟩
    · obtain rfl : k = l := by omega
      go_wp2
      go_ret
      exact ⟨by rw [hE]; rfl, hB⟩
end Go.Proofs.Ytbibmncepjmgcaa
