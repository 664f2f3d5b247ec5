/- The loop of the program's IsElement. -/
import Derived.Test.YtbibmncepjmgcaaElI
import Derived.StillTailTactics
namespace Go.Proofs.Ytbibmncepjmgcaa
open Go.RowKit
set_option linter.unusedVariables false
/-- A whole row is read, from wherever it lies, where a guard lets it. -/
theorem wpList_load_at_if {P : Program} {ops : Array Oper} {rest : List Oper} {op : Oper} {a : Act} {w : World} {Q : Exit → Act → World → Prop} (hw : Region.wanted op (yielded ops a.tmps) = true) (ty : TypeId) (x : Operand) (ho : op.op = .load ty x)
    (ad : Addr) (hx : a.eval x = .pointer (some ad)) (cs : List Value) (d : TypeDesc) (hc : ∀ j v, cs[j]? = some v → w.cell? (ad.add j) = some v)
    (hu : P.underlying ty = some d) (hd : d.isRow = true) (hi : (P.info? ty).map (·.size) = some cs.length)
    (h : wpList P ops Q rest (a.put op.dst (.agg cs.toArray)) w) : wpList P ops Q (op :: rest) a w := by
  refine wpList_step fun _ hK => ?_
  rw [if_pos hw]
  have hv : (loadVar ty ad).run P w = .ok (.agg cs.toArray) w := by
    have hl : (loadCells ad cs.length).run P w = .ok cs.toArray w := run_loadCells_list (P := P) w ad cs hc
    cases hq : P.info? ty with
    | none => simp [hq] at hi
    | some i =>
      have hs : i.size = cs.length := by simpa [hq] using hi
      have hagg : (isAgg ty).run P w = .ok true w := by
        unfold isAgg
        rw [Sem.run_bind, run_underlying hu w]
        cases d <;> simp_all
      simp [loadVar, Sem.run_bind, hagg, sizeOf, typeInfo, hq, hs, hl]
  unfold Oper.wp execOp
  simp only [ho, hx, Instr.loadAt, Instr.sureAddr, Sem.run_bind, Sem.run_pure, Result.andThen_ok, hv]
  exact hK _ _ h
theorem isD_size {n : Int} {ms : List Int} (h : isD n ms = true) : 1 ≤ n ∧ n ≤ 8 := by
  unfold isD at h; rw [Bool.and_eq_true, decide_eq_true_eq] at h; exact h.1
set_option maxRecDepth 100000 in
set_option maxHeartbeats 4000000 in
theorem elI_loop (p c n : Int) (q : Option Addr) (cap : Nat) (ts : List Tm) (hts : ∀ t ∈ ts, t.2.1.length = 16 ∧ Bytes t.2.1) (w : World) (hR : RdT w q ts) (hp : (primeB p && decide (0 ≤ c ∧ c < p)) = true) (n1 : 1 ≤ n) (n8 : n ≤ 8) (h140 : ts.length ≤ 140) :
    Calls Try.prog 36 #[.agg (ecl p c n (.slice q ts.length cap))] w fun e w' => e = .returned (.bool (elT n p ts ts.length)) ∧ Below w.heap.size w w' := by
  have hm := Lib.hid (fun w => modI_any p c w)
  rw [hp] at hm
  obtain ⟨l, hl⟩ : ∃ l, ts.length = l := ⟨_, rfl⟩
  have hR' := Lib.hid hR
  have hT := Lib.hid hts
  rw [hl] at h140 ⊢
  have hL := Lib.hid hl
  unfold ecl
  clear hp hR hts hl
  go_enter Try.func36, Try.ntmps36
  go_wp2_with (first
    | (go_at_call 73; ((with_reducible refine (hm.out _).mono ?_); rintro e w1 ⟨rfl, hw⟩; subst hw))
    | (go_at_call 74; ((with_reducible refine (isSize_t _ _ n1 n8).mono ?_); rintro e w2 ⟨rfl, rfl⟩)))
  clear hm
  go_loopw [3, 4, 26] (fun i3 i4 i wr => ∃ k : Nat, k ≤ l ∧ i = .int .i64 k ∧ elT n p ts k = true ∧ Own wr w.heap.size (ecl p c n (.slice q l cap)) 30 ∧ Below w.heap.size w wr) (fun i3 i4 i _ => ((l : Int) - intOf i).toNat)
  case atStart => exact ⟨0, by omega, rfl, rfl, Own.new _ _ _, (Below.refl _ _).alloc (Nat.le_refl _) _⟩
  case round =>
    obtain ⟨k, hk, rfl, hE, hO, hB⟩ := hrel
    by_cases hlt : k < l
    · have hkt : k < ts.length := by rw [hL.out]; exact hlt
      have hltI : (k : Int) < l := by omega
      cases q with
      | none => exfalso; have h1 := hR'.out.nil rfl; rw [h1] at hkt; simp at hkt
      | some a =>
        have hc := Lib.hid ((hR'.out.below hB).cell a rfl k hkt)
        have hte := hT.out (ts.getD k zT) (by rw [List.getD_eq_getElem?_getD, List.getElem?_eq_getElem hkt]; exact List.getElem_mem hkt)
        obtain ⟨⟨tn, tms, tk⟩, ht⟩ : ∃ t, ts.getD k zT = t := ⟨_, rfl⟩
        have hst := Lib.hid (show elT n p ts (k + 1) = (tOk n p (tn, tms, tk) && (decide (k = 0) || ltT (ts.getD (k - 1) zT) (tn, tms, tk))) by rw [elT, hE, Bool.true_and, ht])
        have hno := Lib.hid (fun (h : elT n p ts (k + 1) = false) => elT_no h (show k + 1 ≤ l by omega))
        rw [ht] at hc hte
        obtain ⟨ht16, htb⟩ := hte
        have h18 := Lib.hid (show (tcl (tn, tms, tk)).length = 18 from tcl_len ht16)
        have hs18 := Lib.hid (show (tcl (tn, tms, tk)).toArray.size = 18 by rw [List.size_toArray]; exact tcl_len ht16)
        have hz18 := Lib.hid (show (tcl zT).toArray.size = 18 by rw [List.size_toArray]; exact zT_len)
        have hl17 := Lib.hid (show tms.length = 16 from ht16)
        have k0 := Lib.hid (show (tcl (tn, tms, tk)).toArray[0]? = some (.int .i64 tn) from rfl)
        have k17 := Lib.hid (show (tcl (tn, tms, tk)).toArray[17]? = some (.int .i64 tk) by
          rw [List.getElem?_toArray, tcl_eq, List.nil_append, List.getElem?_append_right (by rw [dl17 ht16]; exact Nat.le_refl _), dl17 ht16]; rfl)
        have hID := Lib.hid (fun w => isI_any tn tms ht16 htb w)
        have hok := Lib.hid (show tOk n p (tn, tms, tk) = (decide (tn = n) && isD tn tms && decide (1 ≤ tk ∧ tk < p)) from rfl)
        have hlt0 := Lib.hid hO.lt
        have hO' := Lib.hid hO
        have hB' := Lib.hid hB
        have hne : wr.heap.size ≠ w.heap.size := Nat.ne_of_gt hO.lt
        have htb' := Lib.hid htb
        have hE' := Lib.hid hE
        have ht' := Lib.hid ht
        have hkt' := Lib.hid hkt
        clear hE ht16 htb ht hkt hO hB
        by_cases e1 : tn = n
        · have e1' := e1.symm
          subst e1'
          obtain ⟨b, hb⟩ : ∃ b, isD n tms = b := ⟨_, rfl⟩
          have hd17 := Lib.hid (dl17 (n := n) hl17.out)
          rw [hb] at hID hok
          cases b with
          | false =>
            have hF := Lib.hid (hno.out (by rw [hst.out, hok.out, Bool.and_false, Bool.false_and, Bool.false_and]))
            clear hst hno hok hb
            go_wp2_with (first
            | (refine wpList_load_at rfl 56 (.tmp 29) rfl (a.add (k * 18)) rfl (tcl (n, tms, tk)) _ hc.out Try.underlying56 rfl (by rw [h18.out]; kernel_rfl) ?_)
            | (refine wpList_store_own rfl 56 _ _ rfl _ _ rfl rfl 56 _ (Own.new wr (tcl zT).toArray 56) (row52 hs18.out) (by rw [hz18.out, hs18.out]) (one_tcl _) ?_; intro w2 hO2 hN2; have hX2 := (hO'.out.alloc (.cells (tcl zT).toArray 56)).only hN2 hne.symm; have hB2 : Below w.heap.size w w2 := (hB'.out.alloc hB'.out.size _).trans (hN2.below.mono (Nat.le_of_lt hlt0.out)); have c0 := hO2.cell 0; rw [k0.out] at c0; have c17 := hO2.cell 17; rw [k17.out] at c17; have x0 : w2.cell? ⟨w.heap.size, 0, none⟩ = some (.int .i64 p) := hX2.cell 0; have x2 : w2.cell? ⟨w.heap.size, 2, none⟩ = some (.int .i64 n) := hX2.cell 2; have p2 : w2.rangeAt wr.heap.size 0 (dcells n tms).toList := Own.part (A := []) (B := (dcells n tms).toList) (C := [.int .i64 tk]) hO2; have p2' : ∀ j v, (dcells n tms).toList[j]? = some v → w2.cell? ((⟨wr.heap.size, 0, none⟩ : Addr).add j) = some v := fun j v hj => by rw [Addr.add_mid]; exact p2 j v hj)
            | (refine wpList_load_at_if rfl 53 (.tmp 38) rfl ⟨wr.heap.size, 0, none⟩ rfl (dcells n tms).toList _ p2' Try.underlying53 rfl (by rw [hd17.out]; kernel_rfl) ?_)
            | (go_at_call 75; ((with_reducible refine (hID.out _).mono ?_); rintro e w3 ⟨rfl, hB3⟩); have hO3 := hO2.below hB3 hO2.lt; have hX3 := hX2.below hB3 hX2.lt; have c17' := hO3.cell 17; rw [k17.out] at c17'; have x0' : w3.cell? ⟨w.heap.size, 0, none⟩ = some (.int .i64 p) := hX3.cell 0; have x3' : w3.cell? ⟨w.heap.size, 3, none⟩ = some (.slice (some a) l cap) := hX3.cell 3; have b3 : Below w.heap.size w w3 := hB2.trans (hB3.mono hB2.size)))
            go_ret
            exact ⟨by rw [hF.out]; rfl, b3⟩
          | true =>
            have hb' := Lib.hid hb
            clear hb
            by_cases e2 : tk < 1
            · have hF := Lib.hid (hno.out (by rw [hst.out, hok.out, decide_eq_false (show ¬ (1 ≤ tk ∧ tk < p) by omega), Bool.and_false, Bool.false_and]))
              clear hst hno hok
              go_wp2_with (first
            | (refine wpList_load_at rfl 56 (.tmp 29) rfl (a.add (k * 18)) rfl (tcl (n, tms, tk)) _ hc.out Try.underlying56 rfl (by rw [h18.out]; kernel_rfl) ?_)
            | (refine wpList_store_own rfl 56 _ _ rfl _ _ rfl rfl 56 _ (Own.new wr (tcl zT).toArray 56) (row52 hs18.out) (by rw [hz18.out, hs18.out]) (one_tcl _) ?_; intro w2 hO2 hN2; have hX2 := (hO'.out.alloc (.cells (tcl zT).toArray 56)).only hN2 hne.symm; have hB2 : Below w.heap.size w w2 := (hB'.out.alloc hB'.out.size _).trans (hN2.below.mono (Nat.le_of_lt hlt0.out)); have c0 := hO2.cell 0; rw [k0.out] at c0; have c17 := hO2.cell 17; rw [k17.out] at c17; have x0 : w2.cell? ⟨w.heap.size, 0, none⟩ = some (.int .i64 p) := hX2.cell 0; have x2 : w2.cell? ⟨w.heap.size, 2, none⟩ = some (.int .i64 n) := hX2.cell 2; have p2 : w2.rangeAt wr.heap.size 0 (dcells n tms).toList := Own.part (A := []) (B := (dcells n tms).toList) (C := [.int .i64 tk]) hO2; have p2' : ∀ j v, (dcells n tms).toList[j]? = some v → w2.cell? ((⟨wr.heap.size, 0, none⟩ : Addr).add j) = some v := fun j v hj => by rw [Addr.add_mid]; exact p2 j v hj)
            | (refine wpList_load_at_if rfl 53 (.tmp 38) rfl ⟨wr.heap.size, 0, none⟩ rfl (dcells n tms).toList _ p2' Try.underlying53 rfl (by rw [hd17.out]; kernel_rfl) ?_)
            | (go_at_call 75; ((with_reducible refine (hID.out _).mono ?_); rintro e w3 ⟨rfl, hB3⟩); have hO3 := hO2.below hB3 hO2.lt; have hX3 := hX2.below hB3 hX2.lt; have c17' := hO3.cell 17; rw [k17.out] at c17'; have x0' : w3.cell? ⟨w.heap.size, 0, none⟩ = some (.int .i64 p) := hX3.cell 0; have x3' : w3.cell? ⟨w.heap.size, 3, none⟩ = some (.slice (some a) l cap) := hX3.cell 3; have b3 : Below w.heap.size w w3 := hB2.trans (hB3.mono hB2.size)))
              go_ret
              exact ⟨by rw [hF.out]; rfl, b3⟩
            · by_cases e3 : p ≤ tk
              · have hF := Lib.hid (hno.out (by rw [hst.out, hok.out, decide_eq_false (show ¬ (1 ≤ tk ∧ tk < p) by omega), Bool.and_false, Bool.false_and]))
                clear hst hno hok
                go_wp2_with (first
            | (refine wpList_load_at rfl 56 (.tmp 29) rfl (a.add (k * 18)) rfl (tcl (n, tms, tk)) _ hc.out Try.underlying56 rfl (by rw [h18.out]; kernel_rfl) ?_)
            | (refine wpList_store_own rfl 56 _ _ rfl _ _ rfl rfl 56 _ (Own.new wr (tcl zT).toArray 56) (row52 hs18.out) (by rw [hz18.out, hs18.out]) (one_tcl _) ?_; intro w2 hO2 hN2; have hX2 := (hO'.out.alloc (.cells (tcl zT).toArray 56)).only hN2 hne.symm; have hB2 : Below w.heap.size w w2 := (hB'.out.alloc hB'.out.size _).trans (hN2.below.mono (Nat.le_of_lt hlt0.out)); have c0 := hO2.cell 0; rw [k0.out] at c0; have c17 := hO2.cell 17; rw [k17.out] at c17; have x0 : w2.cell? ⟨w.heap.size, 0, none⟩ = some (.int .i64 p) := hX2.cell 0; have x2 : w2.cell? ⟨w.heap.size, 2, none⟩ = some (.int .i64 n) := hX2.cell 2; have p2 : w2.rangeAt wr.heap.size 0 (dcells n tms).toList := Own.part (A := []) (B := (dcells n tms).toList) (C := [.int .i64 tk]) hO2; have p2' : ∀ j v, (dcells n tms).toList[j]? = some v → w2.cell? ((⟨wr.heap.size, 0, none⟩ : Addr).add j) = some v := fun j v hj => by rw [Addr.add_mid]; exact p2 j v hj)
            | (refine wpList_load_at_if rfl 53 (.tmp 38) rfl ⟨wr.heap.size, 0, none⟩ rfl (dcells n tms).toList _ p2' Try.underlying53 rfl (by rw [hd17.out]; kernel_rfl) ?_)
            | (go_at_call 75; ((with_reducible refine (hID.out _).mono ?_); rintro e w3 ⟨rfl, hB3⟩); have hO3 := hO2.below hB3 hO2.lt; have hX3 := hX2.below hB3 hX2.lt; have c17' := hO3.cell 17; rw [k17.out] at c17'; have x0' : w3.cell? ⟨w.heap.size, 0, none⟩ = some (.int .i64 p) := hX3.cell 0; have x3' : w3.cell? ⟨w.heap.size, 3, none⟩ = some (.slice (some a) l cap) := hX3.cell 3; have b3 : Below w.heap.size w w3 := hB2.trans (hB3.mono hB2.size)))
                go_ret
                exact ⟨by rw [hF.out]; rfl, b3⟩
              · have hK := Lib.hid (show elT n p ts (k + 1) = (decide (k = 0) || ltT (ts.getD (k - 1) zT) (n, tms, tk)) by rw [hst.out, hok.out, decide_eq_true (rfl : n = n), decide_eq_true (show 1 ≤ tk ∧ tk < p by omega)]; rfl)
                clear hst hok
                by_cases hk0 : k = 0
                · have hN := Lib.hid (show elT n p ts (k + 1) = true by rw [hK.out, decide_eq_true hk0]; rfl)
                  have hk0' := Lib.hid hk0
                  clear hK hno hk0
                  go_wp2_with (first
            | (refine wpList_load_at rfl 56 (.tmp 29) rfl (a.add (k * 18)) rfl (tcl (n, tms, tk)) _ hc.out Try.underlying56 rfl (by rw [h18.out]; kernel_rfl) ?_)
            | (refine wpList_store_own rfl 56 _ _ rfl _ _ rfl rfl 56 _ (Own.new wr (tcl zT).toArray 56) (row52 hs18.out) (by rw [hz18.out, hs18.out]) (one_tcl _) ?_; intro w2 hO2 hN2; have hX2 := (hO'.out.alloc (.cells (tcl zT).toArray 56)).only hN2 hne.symm; have hB2 : Below w.heap.size w w2 := (hB'.out.alloc hB'.out.size _).trans (hN2.below.mono (Nat.le_of_lt hlt0.out)); have c0 := hO2.cell 0; rw [k0.out] at c0; have c17 := hO2.cell 17; rw [k17.out] at c17; have x0 : w2.cell? ⟨w.heap.size, 0, none⟩ = some (.int .i64 p) := hX2.cell 0; have x2 : w2.cell? ⟨w.heap.size, 2, none⟩ = some (.int .i64 n) := hX2.cell 2; have p2 : w2.rangeAt wr.heap.size 0 (dcells n tms).toList := Own.part (A := []) (B := (dcells n tms).toList) (C := [.int .i64 tk]) hO2; have p2' : ∀ j v, (dcells n tms).toList[j]? = some v → w2.cell? ((⟨wr.heap.size, 0, none⟩ : Addr).add j) = some v := fun j v hj => by rw [Addr.add_mid]; exact p2 j v hj)
            | (refine wpList_load_at_if rfl 53 (.tmp 38) rfl ⟨wr.heap.size, 0, none⟩ rfl (dcells n tms).toList _ p2' Try.underlying53 rfl (by rw [hd17.out]; kernel_rfl) ?_)
            | (go_at_call 75; ((with_reducible refine (hID.out _).mono ?_); rintro e w3 ⟨rfl, hB3⟩); have hO3 := hO2.below hB3 hO2.lt; have hX3 := hX2.below hB3 hX2.lt; have c17' := hO3.cell 17; rw [k17.out] at c17'; have x0' : w3.cell? ⟨w.heap.size, 0, none⟩ = some (.int .i64 p) := hX3.cell 0; have x3' : w3.cell? ⟨w.heap.size, 3, none⟩ = some (.slice (some a) l cap) := hX3.cell 3; have b3 : Below w.heap.size w w3 := hB2.trans (hB3.mono hB2.size)))
                  have hk0 := hk0'.out
                  have hkz : ¬ ((0 : Int) < (k : Int)) := by omega
                  go_quiet (fail)
                  go_wp2
                  go_roundw
                  case rel => exact ⟨k + 1, by omega, by go_num, hN.out, Own.drewN hX3 _, Below.drewN b3 _⟩
                  case measure => simp [intOf]; omega
                · obtain ⟨j, hj⟩ : ∃ j, k = j + 1 := ⟨k - 1, by omega⟩
                  have hjt : j < ts.length := by have := hkt'.out; omega
                  have hq := elT_ok hE'.out j (by omega)
                  have hsd := hT.out (ts.getD j zT) (by rw [List.getD_eq_getElem?_getD, List.getElem?_eq_getElem hjt]; exact List.getElem_mem hjt)
                  have hcj := Lib.hid (fun wd (hd : Below w.heap.size w wd) => (hR'.out.below hd).cell a rfl j hjt)
                  rw [show k - 1 = j by omega, decide_eq_false hk0, Bool.false_or] at hK
                  obtain ⟨⟨sn, sms, sk⟩, hs⟩ : ∃ t, ts.getD j zT = t := ⟨_, rfl⟩
                  rw [hs] at hq hsd hcj hK
                  obtain ⟨hs16, hsb⟩ := hsd
                  rw [tOk, Bool.and_eq_true, Bool.and_eq_true] at hq
                  have hsz := isD_size hq.1.2
                  have hcd := Lib.hid (fun w => cmpD_any sn n sms tms hs16 hl17.out hsb htb'.out hsz.1 hsz.2 n1 n8 w)
                  obtain ⟨r, hr⟩ : ∃ r, Extern.BytealgCompare.cmp (textS sn sms) (textS n tms) = r := ⟨_, rfl⟩
                  have hlr := Lib.hid (less_of (textS sn sms) (textS n tms))
                  rw [hr] at hcd hlr
                  have hs17 := Lib.hid (dl17 (n := sn) hs16)
                  clear hq hs hr hjt hsz hs16 hsb
                  have hj1 : (k : Int) - 1 = (j : Int) := by omega
                  have hk1 : 0 < k := by omega
                  have hjl2 : j < l := by omega
                  have hjl : (j : Int) < l := by omega
                  have hwj : IntKind.i64.wrap (j : Int) = (j : Int) := IntWalk.i64_in _ (by omega)
                  have hj' := Lib.hid hj
                  clear hj hk0
                  go_wp2_with (first
            | (refine wpList_load_at rfl 56 (.tmp 29) rfl (a.add (k * 18)) rfl (tcl (n, tms, tk)) _ hc.out Try.underlying56 rfl (by rw [h18.out]; kernel_rfl) ?_)
            | (refine wpList_store_own rfl 56 _ _ rfl _ _ rfl rfl 56 _ (Own.new wr (tcl zT).toArray 56) (row52 hs18.out) (by rw [hz18.out, hs18.out]) (one_tcl _) ?_; intro w2 hO2 hN2; have hX2 := (hO'.out.alloc (.cells (tcl zT).toArray 56)).only hN2 hne.symm; have hB2 : Below w.heap.size w w2 := (hB'.out.alloc hB'.out.size _).trans (hN2.below.mono (Nat.le_of_lt hlt0.out)); have c0 := hO2.cell 0; rw [k0.out] at c0; have c17 := hO2.cell 17; rw [k17.out] at c17; have x0 : w2.cell? ⟨w.heap.size, 0, none⟩ = some (.int .i64 p) := hX2.cell 0; have x2 : w2.cell? ⟨w.heap.size, 2, none⟩ = some (.int .i64 n) := hX2.cell 2; have p2 : w2.rangeAt wr.heap.size 0 (dcells n tms).toList := Own.part (A := []) (B := (dcells n tms).toList) (C := [.int .i64 tk]) hO2; have p2' : ∀ j v, (dcells n tms).toList[j]? = some v → w2.cell? ((⟨wr.heap.size, 0, none⟩ : Addr).add j) = some v := fun j v hj => by rw [Addr.add_mid]; exact p2 j v hj)
            | (refine wpList_load_at_if rfl 53 (.tmp 38) rfl ⟨wr.heap.size, 0, none⟩ rfl (dcells n tms).toList _ p2' Try.underlying53 rfl (by rw [hd17.out]; kernel_rfl) ?_)
            | (go_at_call 75; ((with_reducible refine (hID.out _).mono ?_); rintro e w3 ⟨rfl, hB3⟩); have hO3 := hO2.below hB3 hO2.lt; have hX3 := hX2.below hB3 hX2.lt; have c17' := hO3.cell 17; rw [k17.out] at c17'; have x0' : w3.cell? ⟨w.heap.size, 0, none⟩ = some (.int .i64 p) := hX3.cell 0; have x3' : w3.cell? ⟨w.heap.size, 3, none⟩ = some (.slice (some a) l cap) := hX3.cell 3; have b3 : Below w.heap.size w w3 := hB2.trans (hB3.mono hB2.size)))
                  refine wp_region_still_tail 12 (by kernel_rfl) (by kernel_rfl) ?_
                  change wpStill _ _ w3.drew (fun a' => wpList _ _ _ _ a' w3.drew) _ _
                  have hX4 := hX3.below (Below.refl _ _).drew hX3.lt
                  have hO4 := hO3.below (Below.refl _ _).drew hO3.lt
                  have b4 := b3.drew
                  generalize w3.drew = wd at *
                  have x3 : wd.cell? ⟨w.heap.size, 3, none⟩ = some (.slice (some a) l cap) := hX4.cell 3
                  clear c17' x0' x3' c0 c17 x0 x2 hX3 hO3 b3
                  simp only [List.take_succ_cons, List.take_zero, List.drop_succ_cons, List.drop_zero]
                  have qc : ∀ i v, (dcells sn sms).toList[i]? = some v → wd.cell? ((a.add (j * 18)).add i) = some v := fun i v hi => hcj.out wd b4 i v (by show ((dcells sn sms).toList ++ [_])[i]? = _; rw [List.getElem?_append_left (List.getElem?_eq_some_iff.1 hi).1]; exact hi)
                  have qp : wd.rangeAt wr.heap.size 0 (dcells n tms).toList := Own.part (A := []) (B := (dcells n tms).toList) (C := [.int .i64 tk]) hO4
                  have qt : ∀ i v, (dcells n tms).toList[i]? = some v → wd.cell? ((⟨wr.heap.size, 0, none⟩ : Addr).add i) = some v := fun i v hi => by rw [Addr.add_mid]; exact qp i v hi
                  still_step
                  still_step
                  still_step
                  still_step
                  still_step
                  still_step
                  still_step
                  still_step
                  still_step
                  refine wpStill_step (fun K' hK' => ?_)
                  rw [if_pos (by rfl)]
                  refine still_load_at 53 (.tmp 63) rfl (a.add (j * 18)) (by first | rfl | simp) (dcells sn sms).toList _ qc Try.underlying53 rfl (by rw [hs17.out]; kernel_rfl) ?_
                  refine hK' _ ?_
                  clear hK' K'
                  still_step
                  refine wpStill_step (fun K' hK' => ?_)
                  rw [if_pos (by rfl)]
                  refine still_load_at 53 (.tmp 65) rfl ⟨wr.heap.size, 0, none⟩ (by first | rfl | simp) (dcells n tms).toList _ qt Try.underlying53 rfl (by rw [hd17.out]; kernel_rfl) ?_
                  refine hK' _ ?_
                  clear hK' K'
                  refine wpStill_nil ?_
                  by_cases e4 : 0 ≤ r
                  · have hF := Lib.hid (hno.out (by rw [hK.out]; exact hlr.out.1 e4))
                    clear hno hK hlr
                    go_wp2_with (first
                      | (go_at_call 76; ((with_reducible refine (hcd.out _).mono ?_); rintro e w5 ⟨rfl, hB5⟩); have b5 := b4.trans (hB5.mono b4.size); have hX5 := hX4.below hB5 hX4.lt))
                    go_ret
                    exact ⟨by rw [hF.out]; rfl, b5⟩
                  · have hN := Lib.hid (show elT n p ts (k + 1) = true by rw [hK.out]; cases hb : ltT (sn, sms, sk) (n, tms, tk) with | true => rfl | false => exact absurd (hlr.out.2 hb) e4)
                    clear hno hK hlr
                    go_wp2_with (first
                      | (go_at_call 76; ((with_reducible refine (hcd.out _).mono ?_); rintro e w5 ⟨rfl, hB5⟩); have b5 := b4.trans (hB5.mono b4.size); have hX5 := hX4.below hB5 hX4.lt))
                    go_roundw
                    case rel => exact ⟨k + 1, by omega, by go_num, hN.out, hX5, b5⟩
                    case measure => simp [intOf]; omega
        · have hF := Lib.hid (hno.out (by rw [hst.out, hok.out, decide_eq_false e1]; rfl))
          clear hst hno hok hID
          go_wp2_with (first
            | (refine wpList_load_at rfl 56 (.tmp 29) rfl (a.add (k * 18)) rfl (tcl (tn, tms, tk)) _ hc.out Try.underlying56 rfl (by rw [h18.out]; kernel_rfl) ?_)
            | (refine wpList_store_own rfl 56 _ _ rfl _ _ rfl rfl 56 _ (Own.new wr (tcl zT).toArray 56) (row52 hs18.out) (by rw [hz18.out, hs18.out]) (one_tcl _) ?_; intro w2 hO2 hN2; have hX2 := (hO'.out.alloc (.cells (tcl zT).toArray 56)).only hN2 hne.symm; have hB2 : Below w.heap.size w w2 := (hB'.out.alloc hB'.out.size _).trans (hN2.below.mono (Nat.le_of_lt hlt0.out)); have c0 := hO2.cell 0; rw [k0.out] at c0; have c17 := hO2.cell 17; rw [k17.out] at c17; have x0 : w2.cell? ⟨w.heap.size, 0, none⟩ = some (.int .i64 p) := hX2.cell 0; have x2 : w2.cell? ⟨w.heap.size, 2, none⟩ = some (.int .i64 n) := hX2.cell 2))
          go_ret
          exact ⟨by rw [hF.out]; rfl, hB2⟩
    · have hk2 : k = l := by omega
      subst hk2
      have hE' := Lib.hid hE
      clear hE
      go_wp2
      go_ret
      rw [hE'.out]
      exact ⟨rfl, hB⟩
theorem elI_any (p c n : Int) (q : Option Addr) (cap : Nat) (ts : List Tm) (hts : ∀ t ∈ ts, t.2.1.length = 16 ∧ Bytes t.2.1) (hx : ts.length ≤ 1048576) (w : World) (hR : RdT w q ts) :
    Calls Try.prog 36 #[.agg (ecl p c n (.slice q ts.length cap))] w fun e w' => e = .returned (.bool (elB p c n ts)) ∧ Below w.heap.size w w' := by
  by_cases h : (primeB p && decide (0 ≤ c ∧ c < p)) = false ∨ ¬ (1 ≤ n ∧ n ≤ 8) ∨ 140 < ts.length
  · have he : elB p c n ts = false := by
      unfold elB
      rcases h with h | h | h
      · rw [h, Bool.false_and]
      · rw [decide_eq_false h, Bool.false_and, Bool.and_false]
      · rw [decide_eq_false (show ¬ ts.length ≤ 140 by omega), Bool.false_and, Bool.and_false, Bool.and_false]
    rw [he]; exact elI_head p c n q cap ts hx w h
  · have h1 : (primeB p && decide (0 ≤ c ∧ c < p)) = true := by
      cases hb : (primeB p && decide (0 ≤ c ∧ c < p)) with
      | true => rfl
      | false => exact absurd (.inl hb) h
    have h2 : 1 ≤ n ∧ n ≤ 8 := Decidable.byContradiction fun hn => h (.inr (.inl hn))
    have h3 : ts.length ≤ 140 := by
      by_cases hq : 140 < ts.length
      · exact absurd (.inr (.inr hq)) h
      · omega
    have he : elB p c n ts = elT n p ts ts.length := by
      unfold elB; rw [h1, decide_eq_true h2, decide_eq_true h3, Bool.true_and, Bool.true_and, Bool.true_and]
    rw [he]; exact elI_loop p c n q cap ts hts w hR h1 h2.1 h2.2 h3
end Go.Proofs.Ytbibmncepjmgcaa
