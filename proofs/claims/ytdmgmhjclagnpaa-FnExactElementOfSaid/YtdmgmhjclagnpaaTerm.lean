/- Terms and elements: their cells, and the laws' own copies of them. -/
import Derived.Test.YtdmgmhjclagnpaaLawD
import Derived.Test.YtdmgmhjclagnpaaText
import Derived.WalkSmall
namespace Go.Proofs.Ytdmgmhjclagnpaa
open Go.RowKit
set_option linter.unusedVariables false
/-- A term: the size and the mates of its diagram, and its factor. -/
abbrev Tm := Int × List Int × Int
def tcl (t : Tm) : List Value := (dcells t.1 t.2.1).toList ++ [.int .i64 t.2.2]
def tsl (ts : List Tm) : List Value := ts.flatMap tcl
def OkTm (t : Tm) : Prop := t.2.1.length = 16 ∧ Bytes t.2.1
theorem tcl_len {t : Tm} (h : t.2.1.length = 16) : (tcl t).length = 18 := by simp [tcl, dcells, h]
theorem tsl_len (ts : List Tm) (h : ∀ t ∈ ts, t.2.1.length = 16) : (tsl ts).length = 18 * ts.length := by
  induction ts with
  | nil => rfl
  | cons t ts ih =>
    have := ih (fun x hx => h x (by simp [hx]))
    show (tcl t ++ tsl ts).length = _
    rw [List.length_append, tcl_len (h t (by simp)), this]; simp; omega
theorem tsl_get (ts : List Tm) (h : ∀ t ∈ ts, t.2.1.length = 16) (i : Nat) (hi : i < ts.length) (j : Nat) (hj : j < 18) : (tsl ts)[18 * i + j]? = (tcl (ts[i]))[j]? := by
  induction ts generalizing i with
  | nil => simp at hi
  | cons t ts ih =>
    have h0 := tcl_len (h t (by simp))
    show (tcl t ++ tsl ts)[18 * i + j]? = _
    cases i with
    | zero => rw [List.getElem?_append_left (by omega)]; simp
    | succ i =>
      rw [List.getElem?_append_right (by omega), h0, show 18 * (i + 1) + j - 18 = 18 * i + j by omega]
      simpa using ih (fun x hx => h x (by simp [hx])) i (by simpa using hi)
theorem one_tcl (t : Tm) : (tcl t).toArray.all (·.oneCell') = true := by simp [tcl, dcells, Value.oneCell']
theorem many_at (A B C vs : List Value) (h : vs.length = B.length) : setMany (A ++ B ++ C).toArray A.length vs = (A ++ vs ++ C).toArray := by
  induction vs generalizing A B with
  | nil => cases B with
    | nil => rfl
    | cons => simp at h
  | cons v vs ih =>
    cases B with
    | nil => simp at h
    | cons b B =>
      have e : (A ++ b :: B ++ C).toArray.setIfInBounds A.length v = ((A ++ [v]) ++ B ++ C).toArray := by
        apply Array.toList_inj.1
        simp [List.set_append_right]
      rw [setMany, e]
      have := ih (A ++ [v]) B (by simpa using h)
      rw [show (A ++ [v]).length = A.length + 1 by simp] at this
      rw [this]; simp
/-- A row of cells is stored in the middle of a block of a call's own. -/
theorem wpList_store_part {P : Program} {ops : Array Oper} {rest : List Oper} {o : Oper} {a : Act} {w : World} {Q : Exit → Act → World → Prop} (hgd : o.guard = none) (ty : TypeId) (x y : Operand) (ho : o.op = .store ty x y)
    (g : Nat) (A B C : List Value) (vs : Array Value) (hx : a.eval x = .pointer (some ⟨g, A.length, none⟩)) (hy : a.eval y = .agg vs) (hl : vs.size = B.length)
    (t : TypeId) (hg : Own w g (A ++ B ++ C).toArray t) (hi : (P.info? ty).map (·.size) = some vs.size) (h1 : vs.all (·.oneCell') = true)
    (h : ∀ w', Own w' g (A ++ vs.toList ++ C).toArray t → Only g w w' → wpList P ops Q rest (a.put o.dst undef) w') : wpList P ops Q (o :: rest) a w := by
  have hth : w.there g A.length vs.size := by
    intro j hj
    refine ⟨?_, hg.free _⟩
    rw [hg.cell, List.getElem?_toArray, List.append_assoc, List.getElem?_append_right (by omega), Nat.add_sub_cancel_left, List.getElem?_append_left (by omega), List.getElem?_eq_getElem (by omega)]
    rfl
  refine wpList_store_mid hgd ty x y ho g A.length vs hx hy hth hi h1 (h _ ?_ (Only.many _ _ _))
  have := hg.many vs.toList A.length
  rwa [many_at A B C vs.toList (by simpa using hl)] at this
theorem Own.part {w : World} {g : Nat} {A B C : List Value} {t : TypeId} (hg : Own w g (A ++ B ++ C).toArray t) : w.rangeAt g A.length B := by
  intro j v hj
  have hlt : j < B.length := (List.getElem?_eq_some_iff.1 hj).1
  rw [hg.cell, List.getElem?_toArray, List.append_assoc, List.getElem?_append_right (by omega), Nat.add_sub_cancel_left, List.getElem?_append_left hlt]
  exact hj
/-- A whole row is read, from wherever it lies. -/
theorem wpList_load_at {P : Program} {ops : Array Oper} {rest : List Oper} {op : Oper} {a : Act} {w : World} {Q : Exit → Act → World → Prop} (hgd : op.guard = none) (ty : TypeId) (x : Operand) (ho : op.op = .load ty x)
    (ad : Addr) (hx : a.eval x = .pointer (some ad)) (cs : List Value) (d : TypeDesc) (hc : ∀ j v, cs[j]? = some v → w.cell? (ad.add j) = some v)
    (hu : P.underlying ty = some d) (hd : d.isRow = true) (hi : (P.info? ty).map (·.size) = some cs.length)
    (h : wpList P ops Q rest (a.put op.dst (.agg cs.toArray)) w) : wpList P ops Q (op :: rest) a w := by
  refine wpList_plain hgd fun _ hK => ?_
  have hv : (loadVar ty ad).run P w = .ok (.agg cs.toArray) w := by
    have hl : (loadCells ad cs.length).run P w = .ok cs.toArray w := run_loadCells_list (P := P) w ad cs hc
    cases hq : P.info? ty with
    | none => simp [hq] at hi
    | some i =>
      have hs : i.size = cs.length := by simpa [hq] using hi
      have hagg : (isAgg ty).run P w = .ok true w := by
        unfold isAgg
        rw [Sem.run_bind, run_underlying hu w]
        cases d <;> simp_all
      simp [loadVar, Sem.run_bind, hagg, sizeOf, typeInfo, hq, hs, hl]
  unfold Oper.wp execOp
  simp only [ho, hx, Instr.loadAt, Instr.sureAddr, Sem.run_bind, Sem.run_pure, Result.andThen_ok, hv]
  exact hK _ _ h
theorem row52 {c : Array Value} (h : c.size = 18) : (Try.prog.info? 66).map (·.size) = some c.size := by rw [h]; kernel_rfl
theorem row77 {c : Array Value} (h : c.size = 18) : (Try.prog.info? 91).map (·.size) = some c.size := by rw [h]; kernel_rfl
def zterm : List Value := tcl (0, zeros, 0)
/-- A part of a block is read, as an array. -/
theorem wpList_load_part {P : Program} {ops : Array Oper} {rest : List Oper} {op : Oper} {a : Act} {w : World} {Q : Exit → Act → World → Prop} (hgd : op.guard = none) (ty : TypeId) (x : Operand) (ho : op.op = .load ty x)
    (b o : Nat) (hx : a.eval x = .pointer (some ⟨b, o, none⟩)) (vs : Array Value) (d : TypeDesc) (hc : w.rangeAt b o vs.toList)
    (hu : P.underlying ty = some d) (hd : d.isRow = true) (hi : (P.info? ty).map (·.size) = some vs.size)
    (h : wpList P ops Q rest (a.put op.dst (.agg vs)) w) : wpList P ops Q (op :: rest) a w :=
  wpList_load_mid hgd ty x ho b o hx vs.toList d hc hu hd (by rw [hi]; simp) (by simpa using h)
theorem tcl_eq (n : Int) (ms : List Int) (k : Int) : tcl (n, ms, k) = [] ++ (dcells n ms).toList ++ [.int .i64 k] := rfl
theorem dl17 {n : Int} {ms : List Int} (h : ms.length = 16) : (dcells n ms).toList.length = 17 := by simp [dcells, h]
set_option maxRecDepth 100000 in
set_option maxHeartbeats 1000000 in
theorem toT_any (t : Tm) (ht : t.2.1.length = 16) (w : World) :
    Calls Try.prog 67 #[.agg (tcl t).toArray] w fun e w' => e = .returned (.agg (tcl t).toArray) ∧ Below w.heap.size w w' := by
  obtain ⟨n, ms, k⟩ := t
  have hl := Lib.hid ht
  have h18 := Lib.hid (show (tcl (n, ms, k)).toArray.size = 18 by rw [List.size_toArray]; exact tcl_len ht)
  have hz18 := Lib.hid (show (tcl (0, zeros, 0)).toArray.size = 18 by rw [List.size_toArray]; exact tcl_len zlen)
  have kk : (tcl (n, ms, k)).toArray[17]? = some (.int .i64 k) := by
    rw [List.getElem?_toArray, tcl_eq, List.nil_append, List.getElem?_append_right (by rw [dl17 ht]; exact Nat.le_refl _), dl17 ht]; rfl
  have kz : (tcl (n, ms, 0)).toArray[17]? = some (.int .i64 0) := by
    rw [List.getElem?_toArray, tcl_eq, List.nil_append, List.getElem?_append_right (by rw [dl17 ht]; exact Nat.le_refl _), dl17 ht]; rfl
  have ks : (tcl (n, ms, 0)).toArray.setIfInBounds 17 (.int .i64 k) = (tcl (n, ms, k)).toArray := by
    apply Array.toList_inj.1
    rw [Array.toList_setIfInBounds, tcl_eq, tcl_eq, List.nil_append, List.set_append_right _ _ (by rw [dl17 ht]; exact Nat.le_refl _), dl17 ht]; rfl
  have KK := Lib.hid kk
  have KZ := Lib.hid kz
  have KS := Lib.hid ks
  clear ht kk kz ks
  go_enter Try.func67, Try.ntmps67
  go_wp2_with (first
    | (refine wpList_load_part rfl 51 (.tmp 4) rfl _ 0 rfl (dcells n ms) _ (Own.part (A := []) (B := (dcells n ms).toList) (C := [.int .i64 k]) (((Own.new w (tcl (n, ms, k)).toArray 91).alloc _).alloc _)) Try.underlying51 rfl (row50 (d17 _ _ hl.out)) ?_)
    | (go_at_call 28; refine (toD_any n ms hl.out _).mono ?_; rintro e w1 ⟨rfl, hB1⟩; have hO1 : Own w1 (w.heap.size + 1 + 1) (tcl (0, zeros, 0)).toArray 66 := (Own.at _ _ _ (by simp)).below hB1 (by simp); have hT1 : Own w1 w.heap.size (tcl (n, ms, k)).toArray 91 := (((Own.new w _ _).alloc _).alloc _).below hB1 (by simp <;> omega); have hR1 : Own w1 (w.heap.size + 1) (tcl (0, zeros, 0)).toArray 66 := ((Own.at _ _ _ (by simp)).alloc _).below hB1 (by simp <;> omega))
    | (refine wpList_store_part rfl 53 (.tmp 7) (.tmp 6) rfl (w.heap.size + 1 + 1) [] (dcells 0 zeros).toList [.int .i64 0] (dcells n ms) rfl rfl (by rw [d17 _ _ hl.out, dl17 zlen]) 66 hO1 (row26 (d17 _ _ hl.out)) (dcells_one _ _) ?_; intro w2 hO2' hN2; have hO2 : Own w2 (w.heap.size + 1 + 1) (tcl (n, ms, 0)).toArray 66 := hO2'; have hT2 := hT1.only hN2 (by omega); have hR2 := hR1.only hN2 (by omega); have c1 := hT2.cell 17; rw [KK.out] at c1; have c2 := hO2.cell 17; rw [KZ.out] at c2; have f2 := hO2.free 17; have hO3 := hO2.set 17 (.int .i64 k); rw [KS.out] at hO3; have hR3 := hR2.other (a := ⟨w.heap.size + 1 + 1, 17, none⟩) (by simp) (.int .i64 k); have hO3' := Lib.hid hO3; have hR3' := Lib.hid hR3; clear hO3 hR3 hO2')
    | (refine wpList_load_row rfl 66 _ rfl _ rfl 66 _ (0, 0) _ hO3'.out Try.underlying66 rfl (row52 h18.out) ?_)
    | (refine wpList_store_own rfl 66 _ _ rfl _ _ rfl rfl 66 _ hR3'.out (row52 h18.out) (by rw [hz18.out, h18.out]) (one_tcl _) ?_; intro w4 hO4 hN4))
  refine bodyPost_ret (v := .agg (tcl (n, ms, k)).toArray) (results_cell_row rfl _ _ _ _ _ (0, 0) _ rfl hO4 Try.underlying66 rfl (row52 h18.out)) rfl ⟨rfl, ?_⟩
  have b0 : Below w.heap.size w (((w.alloc (.cells (tcl (n, ms, k)).toArray 91)).alloc (.cells (tcl (0, zeros, 0)).toArray 66)).alloc (.cells (tcl (0, zeros, 0)).toArray 66)) := (((Below.refl _ _).alloc (Nat.le_refl _) _).alloc (by simp) _).alloc (by simp; omega) _
  have b1 : Below w.heap.size w w1 := b0.trans (hB1.mono b0.size)
  have b2 := b1.trans (hN2.below.mono (by omega))
  have b3 := b2.setCell (p := ⟨w.heap.size + 1 + 1, 17, none⟩) (by simp; omega) (.int .i64 k)
  exact b3.trans (hN4.below.mono (by omega))
end Go.Proofs.Ytdmgmhjclagnpaa
