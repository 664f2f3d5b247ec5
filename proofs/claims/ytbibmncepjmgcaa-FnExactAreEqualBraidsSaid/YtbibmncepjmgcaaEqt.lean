/- Terms are compared as values; the model compares two lists of terms. -/
import Derived.Test.YtbibmncepjmgcaaKc
import Derived.Test.YtbibmncepjmgcaaKb
import Derived.Laws.StructEq
import Derived.StillTailTactics
import Derived.Test.YtbibmncepjmgcaaKf
import Derived.Deep.Cut
namespace Go.Proofs.Ytbibmncepjmgcaa
open Go.RowKit Go.Lib
set_option linter.unusedVariables false
set_option linter.unusedSimpArgs false
theorem eqTwo (d : Nat) (T A B : TypeId) (off : Nat) (na nb : String) (h1 : na ≠ "_") (h2 : nb ≠ "_") (hu : Try.prog.underlying T = some (.struct (Try.prog.fieldsOf T))) (hs : Try.prog.stoodInHeld T = false)
    (hm : (Try.prog.fieldsOf T).toList.map (fun f => (f.name, f.type, f.offset)) = [(na, A, 0), (nb, B, off)]) (xs ys : Array Value) (x y x' y' : Value) (b b' : Bool) (w : World)
    (p1 : (part A xs 0).run Try.prog w = .ok x w) (p2 : (part A ys 0).run Try.prog w = .ok y w) (p3 : (part B xs off).run Try.prog w = .ok x' w) (p4 : (part B ys off).run Try.prog w = .ok y' w)
    (e1 : (Op.equalIn d A x y).run Try.prog w = .ok b w) (e2 : (Op.equalIn d B x' y').run Try.prog w = .ok b' w) :
    (Op.equalIn (d + 1) T (.agg xs) (.agg ys)).run Try.prog w = .ok (b && b') w := by
  rw [run_equalIn_struct w d T xs ys hu hs]
  generalize (Try.prog.fieldsOf T).toList = L at hm
  rcases L with _ | ⟨f0, _ | ⟨f1, _ | ⟨f2, L⟩⟩⟩
  · simp at hm
  · simp at hm
  · simp only [List.map_cons, List.map_nil, List.cons.injEq, Prod.mk.injEq, and_true] at hm
    obtain ⟨⟨n0, t0, o0⟩, n1, t1, o1⟩ := hm
    simp only [Op.eqFields, n0, t0, o0, n1, t1, o1, ne_eq, h1, h2, not_false_eq_true, if_true, Sem.run_bind, p1, p2, p3, p4, e1, e2, Result.andThen_ok]
    cases b <;> cases b' <;> simp [Sem.run_bind, p3, p4, e2]
  · simp at hm
theorem part_size (n : Int) (ms : List Int) (w : World) : (part 2 (dcells n ms) 0).run Try.prog w = .ok (.int .i64 n) w := by
  have ha : (isAgg 2).run Try.prog w = .ok false w := by kernel_rfl
  unfold part
  simp [Sem.run_bind, ha, dcells]
theorem part_mate (n : Int) (ms : List Int) (h : ms.length = 16) (w : World) : (part 51 (dcells n ms) 1).run Try.prog w = .ok (.agg (mcells ms)) w := by
  have ha : (isAgg 51).run Try.prog w = .ok true w := by kernel_rfl
  have hs : (sizeOf 51).run Try.prog w = .ok 16 w := by kernel_rfl
  have hm := mates_of n ms h
  have hl : (dcells n ms).size = 17 := by simp [dcells, h]
  unfold part
  simp [Sem.run_bind, ha, hs, hm, hl]
theorem eqDg (d : Nat) (n n' : Int) (ms ms' : List Int) (h : ms.length = 16) (h' : ms'.length = 16) (w : World) :
    (Op.equalIn (d + 3) 53 (.agg (dcells n ms)) (.agg (dcells n' ms'))).run Try.prog w = .ok (decide (n = n' ∧ ms = ms')) w := by
  rw [eqTwo (d + 2) 53 2 51 1 "Size" "Mate" (by decide) (by decide) (by kernel_rfl) (by kernel_rfl) (by kernel_rfl) _ _ _ _ _ _ (n == n') (decide (ms = ms')) w (part_size n ms w) (part_size n' ms' w) (part_mate n ms h w) (part_mate n' ms' h' w) (run_equalIn_int w (d + 1) 2 .i64 .i64 n n' Try.underlying2) (eqArr d ms ms' h h' w)]
  congr 1
  by_cases h1 : n = n' <;> by_cases h2 : ms = ms' <;> simp [h1, h2]
theorem part_dia (t : Tm) (h : t.2.1.length = 16) (w : World) : (part 53 (tcl t).toArray 0).run Try.prog w = .ok (.agg (dcells t.1 t.2.1)) w := by
  have ha : (isAgg 53).run Try.prog w = .ok true w := by kernel_rfl
  have hs : (sizeOf 53).run Try.prog w = .ok 17 w := by kernel_rfl
  have hl : (tcl t).toArray.size = 18 := by rw [List.size_toArray]; exact tcl_len h
  have hm : (tcl t).toArray.extract 0 17 = dcells t.1 t.2.1 := by
    apply Array.toList_inj.1
    have h17 := dl17 (n := t.1) h
    simp only [Array.toList_extract, List.extract_eq_take_drop, tcl, List.drop_zero, Nat.sub_zero]
    rw [List.take_append_of_le_length (by omega), List.take_of_length_le (by omega)]
  unfold part
  simp only [Sem.run_bind, ha, hs, Result.andThen_ok, if_true, Nat.zero_add, hl, hm]
  simp
theorem part_fac (t : Tm) (h : t.2.1.length = 16) (w : World) : (part 2 (tcl t).toArray 17).run Try.prog w = .ok (.int .i64 t.2.2) w := by
  have ha : (isAgg 2).run Try.prog w = .ok false w := by kernel_rfl
  have hk : (tcl t).toArray[17]? = some (.int .i64 t.2.2) := by
    obtain ⟨n, ms, k⟩ := t
    rw [List.getElem?_toArray, tcl_eq, List.nil_append, List.getElem?_append_right (by rw [dl17 h]; exact Nat.le_refl _), dl17 h]; rfl
  unfold part
  simp [Sem.run_bind, ha, hk]
theorem eqTmIn (d : Nat) (t u : Tm) (h : t.2.1.length = 16) (h' : u.2.1.length = 16) (w : World) :
    (Op.equalIn (d + 4) 56 (.agg (tcl t).toArray) (.agg (tcl u).toArray)).run Try.prog w = .ok (decide (t = u)) w := by
  rw [eqTwo (d + 3) 56 53 2 17 "Diagram" "Factor" (by decide) (by decide) (by kernel_rfl) (by kernel_rfl) (by kernel_rfl) _ _ _ _ _ _ (decide (t.1 = u.1 ∧ t.2.1 = u.2.1)) (t.2.2 == u.2.2) w (part_dia t h w) (part_dia u h' w) (part_fac t h w) (part_fac u h' w) (eqDg d _ _ _ _ h h' w) (run_equalIn_int w (d + 2) 2 .i64 .i64 _ _ Try.underlying2)]
  congr 1
  obtain ⟨n, ms, k⟩ := t
  obtain ⟨n', ms', k'⟩ := u
  by_cases h1 : n = n' <;> by_cases h2 : ms = ms' <;> by_cases h3 : k = k' <;> simp [h1, h2, h3]
theorem eqTmV (t u : Tm) (h : t.2.1.length = 16) (h' : u.2.1.length = 16) (w : World) :
    (Op.equalIn 9999 56 (.agg (tcl t).toArray) (.agg (tcl u).toArray)).run Try.prog w = .ok (decide (t = u)) w := eqTmIn 9995 t u h h' w
theorem eqTmW (t u : Tm) (h : t.2.1.length = 16) (h' : u.2.1.length = 16) (w : World) :
    (Op.equalIn 10000 56 (.agg (tcl t).toArray) (.agg (tcl u).toArray)).run Try.prog w = .ok (decide (t = u)) w := eqTmIn 9996 t u h h' w
/-- Two rows are compared by != in a region that draws its order. -/
theorem still_neq {P : Program} {o : Oper} {a : Act} {w : World} {K : Act → Prop} (ty rt : TypeId) (x y : Operand) (ho : o.op = .binOp .neq ty x y rt) (xs ys : Array Value) (hx : a.eval x = .agg xs) (hy : a.eval y = .agg ys) (b : Bool) (hg : P.eqGuardType P.depth ty = false)
    (he : (Op.equalIn 10000 ty (.agg xs) (.agg ys)).run P w = .ok b w) (h : K (a.put o.dst (.bool (!b)))) : o.still P a w K := by
  unfold Oper.still execOp
  simp only [ho, hx, hy, Sem.run_bind, run_eqGuard_agg w .neq ty x y xs ys hg, run_neq_struct, he, Result.andThen_ok, Sem.run_pure]
  rw [Oper.stillUpon_value]; exact h
/-- Two rows are compared by == in a region that draws its order. -/
theorem still_eql {P : Program} {o : Oper} {a : Act} {w : World} {K : Act → Prop} (ty rt : TypeId) (x y : Operand) (ho : o.op = .binOp .eql ty x y rt) (xs ys : Array Value) (hx : a.eval x = .agg xs) (hy : a.eval y = .agg ys) (b : Bool) (hg : P.eqGuardType P.depth ty = false)
    (he : (Op.equalIn 10000 ty (.agg xs) (.agg ys)).run P w = .ok b w) (h : K (a.put o.dst (.bool b))) : o.still P a w K := by
  unfold Oper.still execOp
  simp only [ho, hx, hy, Sem.run_bind, run_eqGuard_agg w .eql ty x y xs ys hg, run_eql_struct, he, Result.andThen_ok, Sem.run_pure]
  rw [Oper.stillUpon_value]; exact h
/-- The first k terms of two lists are equal. -/
theorem all_eq {xs ys : List Tm} (hl : xs.length = ys.length) (h : ∀ j, j < xs.length → xs.getD j zT = ys.getD j zT) : xs = ys := by
  apply List.ext_getElem hl
  intro i h1 h2
  have := h i h1
  simpa [List.getD_eq_getElem?_getD, h1, h2] using this
set_option maxRecDepth 100000 in
set_option maxHeartbeats 4000000 in
theorem sameS_any (p c n p2 c2 n2 : Int) (a b : Addr) (cap cap' : Nat) (xs ys : List Tm) (hx : L16 xs) (hy : L16 ys) (hlx : xs.length ≤ 1048576) (hly : ys.length ≤ 1048576) (w : World) (hA : RdT w (some a) xs) (hB : RdT w (some b) ys) :
    Calls Try.prog 33 #[.agg (ecl p c n (.slice (some a) xs.length cap)), .agg (ecl p2 c2 n2 (.slice (some b) ys.length cap'))] w fun e w' => e = .returned (.bool (decide (xs = ys))) ∧ Below w.heap.size w w' := by
  obtain ⟨r, hr⟩ : ∃ r, decide (xs = ys) = r := ⟨_, rfl⟩
  have hno := Lib.hid (fun (h : xs ≠ ys) => show r = false from by rw [← hr]; exact decide_eq_false h)
  have hyes := Lib.hid (fun (h : xs = ys) => show r = true from by rw [← hr]; exact decide_eq_true h)
  have hA' := Lib.hid hA
  have hB' := Lib.hid hB
  have hX := Lib.hid hx
  have hY := Lib.hid hy
  rw [hr]
  obtain ⟨l, hl⟩ : ∃ l, xs.length = l := ⟨_, rfl⟩
  obtain ⟨m, hm⟩ : ∃ m, ys.length = m := ⟨_, rfl⟩
  have hL := Lib.hid hl
  have hM := Lib.hid hm
  rw [hl, hm]
  rw [hl] at hlx
  rw [hm] at hly
  clear hA hB hx hy hr hl hm
  unfold ecl
  go_enter Try.func33, Try.ntmps33
  by_cases hlm : l = m
  · subst hlm
    have hne : ((l : Int) != (l : Int)) = false := by simp
    go_wp2
    have oX : Own ((w.alloc (.cells #[.int .i64 p, .int .i64 c, .int .i64 n, .slice (some a) l cap] 30)).alloc (.cells #[.int .i64 p2, .int .i64 c2, .int .i64 n2, .slice (some b) l cap'] 30)) w.heap.size #[.int .i64 p, .int .i64 c, .int .i64 n, .slice (some a) l cap] 30 := (Own.new _ _ _).alloc _
    have oY : Own ((w.alloc (.cells #[.int .i64 p, .int .i64 c, .int .i64 n, .slice (some a) l cap] 30)).alloc (.cells #[.int .i64 p2, .int .i64 c2, .int .i64 n2, .slice (some b) l cap'] 30)) (w.heap.size + 1) #[.int .i64 p2, .int .i64 c2, .int .i64 n2, .slice (some b) l cap'] 30 := Own.at _ _ _ (by simp)
    have bW : Below w.heap.size w ((w.alloc (.cells #[.int .i64 p, .int .i64 c, .int .i64 n, .slice (some a) l cap] 30)).alloc (.cells #[.int .i64 p2, .int .i64 c2, .int .i64 n2, .slice (some b) l cap'] 30)) := ((Below.refl _ w).alloc (Nat.le_refl _) _).alloc (by simp) _
    go_loopw [5] (fun i wr => ∃ k : Nat, k ≤ l ∧ i = .int .i64 k ∧ (∀ j, j < k → xs.getD j zT = ys.getD j zT) ∧ Own wr w.heap.size #[.int .i64 p, .int .i64 c, .int .i64 n, .slice (some a) l cap] 30 ∧ Own wr (w.heap.size + 1) #[.int .i64 p2, .int .i64 c2, .int .i64 n2, .slice (some b) l cap'] 30 ∧ Below w.heap.size w wr) (fun i _ => ((l : Int) - intOf i).toNat)
    case atStart => exact ⟨0, by omega, rfl, fun j hj => absurd hj (by omega), oX, oY, bW⟩
    case round =>
      clear oX oY bW
      obtain ⟨k, hk, rfl, hek0, oX, oY, bW⟩ := hrel
      have hek := Lib.hid hek0
      clear hek0
      have x3 : wr.cell? ⟨w.heap.size, 3, none⟩ = some (.slice (some a) l cap) := oX.cell 3
      by_cases hlt : k < l
      · have hkx : k < xs.length := by rw [hL.out]; exact hlt
        have hky : k < ys.length := by rw [hM.out]; exact hlt
        have rA := Lib.hid (fun wd (hd : Below w.heap.size w wd) => (hA'.out.below hd).cell _ rfl k hkx)
        have rB := Lib.hid (fun wd (hd : Below w.heap.size w wd) => (hB'.out.below hd).cell _ rfl k hky)
        have tx16 : (xs.getD k zT).2.1.length = 16 := by rw [List.getD_eq_getElem?_getD, List.getElem?_eq_getElem hkx]; exact hX.out _ (List.getElem_mem hkx)
        have ty16 : (ys.getD k zT).2.1.length = 16 := by rw [List.getD_eq_getElem?_getD, List.getElem?_eq_getElem hky]; exact hY.out _ (List.getElem_mem hky)
        have hnx := Lib.hid (fun (h : xs.getD k zT ≠ ys.getD k zT) => hno.out (fun e => h (by rw [e])))
        have hnk := Lib.hid (fun (h : xs.getD k zT = ys.getD k zT) j (hj : j < k + 1) => show xs.getD j zT = ys.getD j zT from by
          by_cases q : j = k
          · subst q; exact h
          · exact hek.out j (by omega))
        obtain ⟨t, ht⟩ : ∃ t, xs.getD k zT = t := ⟨_, rfl⟩
        obtain ⟨u, hu⟩ : ∃ t, ys.getD k zT = t := ⟨_, rfl⟩
        rw [ht] at rA tx16 hnx hnk
        rw [hu] at rB ty16 hnx hnk
        have hE := Lib.hid (fun w => eqTmW t u tx16 ty16 w)
        have h18 := Lib.hid (tcl_len tx16)
        have h18b := Lib.hid (tcl_len ty16)
        obtain ⟨v, hv⟩ : ∃ v, decide (t = u) = v := ⟨_, rfl⟩
        rw [hv] at hE
        have hvt := Lib.hid (fun (h : v = true) => hnk.out (of_decide_eq_true (hv.trans h)))
        have hvf := Lib.hid (fun (h : v = false) => hnx.out (of_decide_eq_false (hv.trans h)))
        have lI : (k : Int) < (l : Int) := by omega
        clear hkx hky tx16 ty16 ht hu hv hek hnx hnk
        go_upto_region 6 with fail
        refine wp_region_still_lit (by kernel_rfl) (by kernel_rfl) ?_
        have oXd : Own { wr with drawn := wr.drawn + 1 } w.heap.size #[.int .i64 p, .int .i64 c, .int .i64 n, .slice (some a) l cap] 30 := oX
        have oYd : Own { wr with drawn := wr.drawn + 1 } (w.heap.size + 1) #[.int .i64 p2, .int .i64 c2, .int .i64 n2, .slice (some b) l cap'] 30 := oY
        have bd : Below w.heap.size w { wr with drawn := wr.drawn + 1 } := bW.drew
        clear oX oY bW x3
        generalize ({ wr with drawn := wr.drawn + 1 } : World) = wd at *
        have x3 : wd.cell? ⟨w.heap.size, 3, none⟩ = some (.slice (some a) l cap) := oXd.cell 3
        have y3 : wd.cell? ⟨w.heap.size + 1, 3, none⟩ = some (.slice (some b) l cap') := oYd.cell 3
        have qA := rA.out wd bd
        have qB := rB.out wd bd
        still_step
        still_step
        still_step
        still_step
        refine wpStill_step (fun K' hK' => ?_)
        rw [if_pos (by rfl)]
        refine still_load_at 56 (.tmp 23) rfl (a.add (k * 18)) (by first | rfl | simp) (tcl t) _ qA Try.underlying56 rfl (by rw [h18.out]; kernel_rfl) ?_
        refine hK' _ ?_
        clear hK' K'
        still_step
        still_step
        still_step
        still_step
        refine wpStill_step (fun K' hK' => ?_)
        rw [if_pos (by rfl)]
        refine still_load_at 56 (.tmp 28) rfl (b.add (k * 18)) (by first | rfl | simp) (tcl u) _ qB Try.underlying56 rfl (by rw [h18b.out]; kernel_rfl) ?_
        refine hK' _ ?_
        clear hK' K'
        refine wpStill_step (fun K' hK' => ?_)
        rw [if_pos (by rfl)]
        refine still_neq _ _ _ _ rfl (tcl t).toArray (tcl u).toArray rfl rfl v (by kernel_rfl) (hE.out wd) ?_
        refine hK' _ ?_
        clear hK' K' qA qB
        refine wpStill_nil ?_
        cases v with
        | true =>
          have hh := hvt.out rfl
          have hh' := Lib.hid hh
          clear hh
          go_wp2
          go_roundw
          case rel => exact ⟨k + 1, by omega, by go_num, hh'.out, oXd, oYd, bd⟩
          case measure => simp [intOf]; omega
        | false =>
          have hh := hvf.out rfl
          subst hh
          go_wp2
          go_ret
          exact ⟨rfl, bd⟩
      · obtain rfl : k = l := by omega
        have hh := hyes.out (all_eq (by rw [hL.out, hM.out]) (fun j hj => hek.out j (by rw [← hL.out]; exact hj)))
        subst hh
        have lI : ¬ (k : Int) < (k : Int) := by omega
        go_wp2
        go_ret
        exact ⟨rfl, bW⟩
  · have hne : ((l : Int) != (m : Int)) = true := by simp; omega
    have hh := hno.out (fun e => hlm (by rw [← hL.out, ← hM.out, e]))
    subst hh
    go_wp2
    go_ret
    exact ⟨rfl, ((Below.refl _ w).alloc (Nat.le_refl _) _).alloc (by simp) _⟩
end Go.Proofs.Ytbibmncepjmgcaa
