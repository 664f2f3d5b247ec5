/- The laws' comparisons of equal terms and elements. -/
import Derived.Test.YtdmgmhjclagnpaaElem
import Derived.StillTailTactics
namespace Go.Proofs.Ytdmgmhjclagnpaa
open Go.RowKit
set_option linter.unusedVariables false
set_option maxRecDepth 100000 in
set_option maxHeartbeats 1000000 in
theorem eqT_same (t : Tm) (ht : t.2.1.length = 16) (w : World) :
    Calls Try.prog 73 #[.agg (tcl t).toArray, .agg (tcl t).toArray] w fun e w' => e = .returned (.bool true) ∧ Below w.heap.size w w' := by
  obtain ⟨n, ms, k⟩ := t
  have hl := Lib.hid ht
  have kk : (tcl (n, ms, k)).toArray[17]? = some (.int .i64 k) := by
    rw [List.getElem?_toArray, tcl_eq, List.nil_append, List.getElem?_append_right (by rw [dl17 ht]; exact Nat.le_refl _), dl17 ht]; rfl
  have KK := Lib.hid kk
  clear ht kk
  go_enter Try.func73, Try.ntmps73
  go_wp2_with (first
    | (refine wpList_load_part rfl 53 (.tmp 5) rfl _ 0 rfl (dcells n ms) _ (Own.part (A := []) (B := (dcells n ms).toList) (C := [.int .i64 k]) ((Own.new w (tcl (n, ms, k)).toArray 66).alloc _)) Try.underlying53 rfl (row26 (d17 _ _ hl.out)) ?_)
    | (refine wpList_load_part rfl 53 (.tmp 7) rfl _ 0 rfl (dcells n ms) _ (Own.part (A := []) (B := (dcells n ms).toList) (C := [.int .i64 k]) (Own.at _ (tcl (n, ms, k)).toArray 66 (by simp))) Try.underlying53 rfl (row26 (d17 _ _ hl.out)) ?_)
    | (go_at_call 88; refine (eqD_same n ms hl.out _).mono ?_; rintro e w1 ⟨rfl, hB1⟩; have hO1 : Own w1 w.heap.size (tcl (n, ms, k)).toArray 66 := ((Own.new w _ _).alloc _).below hB1 (by simp <;> omega); have hO2 : Own w1 (w.heap.size + 1) (tcl (n, ms, k)).toArray 66 := (Own.at _ _ _ (by simp)).below hB1 (by simp); have c1 := hO1.cell 17; have c2 := hO2.cell 17; rw [KK.out] at c1 c2))
  go_ret
  exact ⟨rfl, (((Below.refl _ _).alloc (Nat.le_refl _) _).alloc (by simp) _).trans (hB1.mono (by simp; omega))⟩
/-- A whole row is read, from wherever it lies, in a region that draws its order. -/
theorem still_load_at {P : Program} {o : Oper} {a : Act} {w : World} {K : Act → Prop} (ty : TypeId) (x : Operand) (ho : o.op = .load ty x)
    (ad : Addr) (hx : a.eval x = .pointer (some ad)) (cs : List Value) (d : TypeDesc) (hc : ∀ j v, cs[j]? = some v → w.cell? (ad.add j) = some v)
    (hu : P.underlying ty = some d) (hd : d.isRow = true) (hi : (P.info? ty).map (·.size) = some cs.length)
    (h : K (a.put o.dst (.agg cs.toArray))) : o.still P a w K := by
  have hv : (loadVar ty ad).run P w = .ok (.agg cs.toArray) w := by
    have hl : (loadCells ad cs.length).run P w = .ok cs.toArray w := run_loadCells_list (P := P) w ad cs hc
    cases hq : P.info? ty with
    | none => simp [hq] at hi
    | some i =>
      have hs : i.size = cs.length := by simpa [hq] using hi
      have hagg : (isAgg ty).run P w = .ok true w := by
        unfold isAgg
        rw [Sem.run_bind, run_underlying hu w]
        cases d <;> simp_all
      simp [loadVar, Sem.run_bind, hagg, sizeOf, typeInfo, hq, hs, hl]
  unfold Oper.still execOp
  simp only [ho, hx, Instr.loadAt, Instr.sureAddr, Sem.run_bind, Sem.run_pure, Result.andThen_ok, hv]
  rw [Oper.stillUpon_value]; exact h
theorem tsl_cut (ts : List Tm) (k : Nat) (hk : k < ts.length) : tsl ts = tsl (ts.take k) ++ tcl (ts.getD k zT) ++ tsl (ts.drop (k + 1)) := by
  have e : ts = ts.take k ++ ts.getD k zT :: ts.drop (k + 1) := by
    rw [List.getD_eq_getElem?_getD, List.getElem?_eq_getElem hk, Option.getD_some, List.getElem_cons_drop, List.take_append_drop]
  have := congrArg tsl e
  rw [tsl_app, tsl_cons, ← List.append_assoc] at this
  exact this
theorem Own.rdT {w : World} {g : Nat} {ts : List Tm} (h : Own w g (tsl ts).toArray 66) (hts : ∀ t ∈ ts, t.2.1.length = 16) : RdT w (some ⟨g, 0, none⟩) ts := by
  refine ⟨fun a e k hk j v hv => ?_, fun e => by cases e⟩
  cases e
  have hAl : (tsl (ts.take k)).length = k * 18 := by
    rw [tsl_len _ (fun t ht => hts t (List.mem_of_mem_take ht)), List.length_take, Nat.min_eq_left (by omega), Nat.mul_comm]
  rw [tsl_cut ts k hk] at h
  have := Own.part h j v hv
  rw [Addr.add_mid, Addr.add_mid, Nat.zero_add, ← hAl]
  exact this
set_option maxRecDepth 100000 in
set_option maxHeartbeats 1000000 in
theorem eqTS_same (a b : Nat) (cap cap' : Nat) (ts : List Tm) (hts : ∀ t ∈ ts, t.2.1.length = 16) (hx : ts.length ≤ 1048576) (w : World) (hA : Own w a (tsl ts).toArray 66) (hB : Own w b (tsl ts).toArray 66) :
    Calls Try.prog 46 #[.slice (some ⟨a, 0, none⟩) ts.length cap, .slice (some ⟨b, 0, none⟩) ts.length cap'] w fun e w' => e = .returned (.bool true) ∧ Below w.heap.size w w' := by
  obtain ⟨n, hn⟩ : ∃ n, ts.length = n := ⟨_, rfl⟩
  have hA' := Lib.hid hA
  have hB' := Lib.hid hB
  have hT := Lib.hid hts
  have hN := Lib.hid hn
  rw [hn] at hx ⊢
  clear hA hB hn hts
  go_enter Try.func46, Try.ntmps46
  go_wp2
  go_loopw [5] (fun i wr => ∃ k : Nat, k ≤ n ∧ i = .int .i64 k ∧ Below w.heap.size w wr) (fun i _ => ((n : Int) - intOf i).toNat)
  case atStart => exact ⟨0, by omega, rfl, Below.refl _ _⟩
  case round =>
    obtain ⟨k, hk, rfl, hB⟩ := hrel
    by_cases hlt : k < n
    · have hkt : k < ts.length := by rw [hN.out]; exact hlt
      have rA := Lib.hid (fun wd (hd : Below w.heap.size w wd) => ((hA'.out.below hd hA'.out.lt).rdT hT.out).cell _ rfl k hkt)
      have rB := Lib.hid (fun wd (hd : Below w.heap.size w wd) => ((hB'.out.below hd hB'.out.lt).rdT hT.out).cell _ rfl k hkt)
      have ht16 : (ts.getD k zT).2.1.length = 16 := by rw [List.getD_eq_getElem?_getD, List.getElem?_eq_getElem hkt]; exact hT.out _ (List.getElem_mem hkt)
      generalize ts.getD k zT = t at *
      have hq := Lib.hid (fun w => eqT_same t ht16 w)
      have h18 := Lib.hid (tcl_len ht16)
      have hBw := Below.drew hB
      clear hkt ht16 hB
      go_wp2_with fail
      refine wp_region_still_tail 8 (by kernel_rfl) (by kernel_rfl) ?_
      change wpStill _ _ wr.drew (fun a' => wpList _ _ _ _ a' wr.drew) _ _
      generalize wr.drew = wd at *
      have qA := rA.out wd hBw
      have qB := rB.out wd hBw
      have hkn : (k : Int) < n := by omega
      rw [Addr.add_mid, Nat.zero_add] at qA qB
      simp only [List.take_succ_cons, List.take_zero, List.drop_succ_cons, List.drop_zero]
      still_step
      still_step
      still_step
      refine wpStill_step (fun K' hK' => ?_)
      rw [if_pos (by rfl)]
      refine still_load_at 66 (.tmp 19) rfl ⟨a, k * 18, none⟩ (by first | rfl | simp) (tcl t) _ qA Try.underlying66 rfl (by rw [h18.out]; kernel_rfl) ?_
      refine hK' _ ?_
      clear hK' K'
      still_step
      still_step
      still_step
      refine wpStill_step (fun K' hK' => ?_)
      rw [if_pos (by rfl)]
      refine still_load_at 66 (.tmp 23) rfl ⟨b, k * 18, none⟩ (by first | rfl | simp) (tcl t) _ qB Try.underlying66 rfl (by rw [h18.out]; kernel_rfl) ?_
      refine hK' _ ?_
      clear hK' K'
      refine wpStill_nil ?_
      go_wp2_with (first
        | ((go_at_call 73; ((with_reducible refine (hq.out _).mono ?_); rintro e w2 ⟨rfl, hB2⟩)); have b2 := hBw.trans (hB2.mono hBw.size)))
      go_roundw
      case rel => exact ⟨k + 1, by omega, by go_num, b2⟩
      case measure => simp [intOf]; omega
    · have hk2 : k = n := by omega
      subst hk2
      go_wp2
      go_ret
      exact ⟨rfl, hB⟩
set_option maxRecDepth 100000 in
set_option maxHeartbeats 1000000 in
theorem eqE_same (p c n : Int) (a b : Nat) (cap cap' : Nat) (ts : List Tm) (hts : ∀ t ∈ ts, t.2.1.length = 16) (hx : ts.length ≤ 1048576) (w : World) (hA : Own w a (tsl ts).toArray 66) (hB : Own w b (tsl ts).toArray 66) :
    Calls Try.prog 22 #[.agg (ecl p c n (.slice (some ⟨a, 0, none⟩) ts.length cap)), .agg (ecl p c n (.slice (some ⟨b, 0, none⟩) ts.length cap'))] w fun e w' => e = .returned (.bool true) ∧ Below w.heap.size w w' := by
  have hq := Lib.hid (fun (A B : Obj) => eqTS_same a b cap cap' ts hts hx ((w.alloc A).alloc B) ((hA.alloc _).alloc _) ((hB.alloc _).alloc _))
  have h2 := Lib.hid (fun (A B : Obj) => show Below w.heap.size w ((w.alloc A).alloc B) from ((Below.refl _ w).alloc (Nat.le_refl _) A).alloc (by simp) B)
  obtain ⟨m, hm⟩ : ∃ m, ts.length = m := ⟨_, rfl⟩
  rw [hm] at hq hx ⊢
  unfold ecl
  clear hA hB hts hm
  go_enter Try.func22, Try.ntmps22
  go_wp2_with (first
    | (go_at_call 46; ((with_reducible refine (hq.out _ _).mono ?_); rintro e w1 ⟨rfl, hB1⟩)))
  go_ret
  exact ⟨rfl, (h2.out _ _).trans (hB1.mono (h2.out _ _).size)⟩
end Go.Proofs.Ytdmgmhjclagnpaa
