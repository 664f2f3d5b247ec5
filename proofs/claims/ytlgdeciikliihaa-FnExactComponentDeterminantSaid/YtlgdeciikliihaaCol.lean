/- slices.Collect over the search for half diagrams: all of them, in order, in a slice of its own. -/
import Derived.Test.YtlgdeciikliihaaChv
import Derived.Test.YtlgdeciikliihaaStr
import Derived.Test.YtlgdeciikliihaaTxM
namespace Go.Proofs.Ytlgdeciikliihaa
open Go.RowKit Go.Shelf
attribute [local go_sem] Oper.semAt_some
set_option linter.unusedVariables false
set_option linter.unusedSimpArgs false
/-- A slice of texts of the call's own, or nil when there is none. -/
def Col (w : World) (base : Nat) (v : Value) (L : List (List UInt8)) : Prop := w.ownsRow base 9 1 v L.length (L.map hval)
theorem Col.of_same {w w' : World} {base : Nat} {v : Value} {L : List (List UInt8)} (h : Col w base v L) (hs : ∀ j, base ≤ j → j < w.heap.size → w'.heap[j]? = w.heap[j]?) : Col w' base v L := by
  obtain ⟨h1, h2 | ⟨g, cap, cur, hv, hg, hh, hn, hcap, hsz, htake⟩⟩ := h
  · exact ⟨h1, .inl h2⟩
  · have hh' : Own w g cur 9 := hh
    exact ⟨h1, .inr ⟨g, cap, cur, hv, hg, (hs g hg hh'.lt).trans hh, hn, hcap, hsz, htake⟩⟩
theorem Col.put {w : World} {base D : Nat} {v : Value} {L : List (List UInt8)} (h : Col w base v L) (hK : w.heap[D]? = some (.deferred (some []))) (o : Obj) : Col (w.putObj D o) base v L := by
  obtain ⟨h1, h2 | ⟨g, cap, cur, hv, hg, hh, hn, hcap, hsz, htake⟩⟩ := h
  · exact ⟨h1, .inl h2⟩
  · have hh' : w.heap[g]? = some (.cells cur 9 (0, 0)) := hh
    have hne : g ≠ D := fun e => by rw [e, hK] at hh'; cases hh'
    exact ⟨h1, .inr ⟨g, cap, cur, hv, hg, (World.putObj_heap_other hne).trans hh, hn, hcap, hsz, htake⟩⟩
theorem Col.nil (w : World) (base : Nat) : Col w base (.slice none 0 0) [] := ⟨rfl, .inl ⟨rfl, rfl⟩⟩
theorem Col.own_ge {w : World} {base : Nat} {v : Value} {L : List (List UInt8)} (h : Col w base v L) : ∀ r, v.ownBlock = some r → base ≤ r ∧ r < w.heap.size := by
  obtain ⟨h1, ⟨rfl, _⟩ | ⟨g, cap, cur, rfl, hg, hh, hn, hcap, hsz, htake⟩⟩ := h
  · intro r e; cases e
  · intro r e
    have hh' : Own w g cur 9 := hh
    cases e; exact ⟨hg, hh'.lt⟩
theorem Col.shape {w : World} {base : Nat} {v : Value} {L : List (List UInt8)} (h : Col w base v L) : ∃ p m c, v = .slice p m c := by
  obtain ⟨h1, ⟨rfl, _⟩ | ⟨g, cap, cur, rfl, _⟩⟩ := h
  · exact ⟨_, _, _, rfl⟩
  · exact ⟨_, _, _, rfl⟩
theorem Col.base {w : World} {base base' : Nat} {v : Value} {L : List (List UInt8)} (h : Col w base v L) (hb : base' ≤ base) : Col w base' v L := by
  obtain ⟨h1, h2 | ⟨g, cap, cur, hv, hg, hh⟩⟩ := h
  · exact ⟨h1, .inl h2⟩
  · exact ⟨h1, .inr ⟨g, cap, cur, hv, Nat.le_trans hb hg, hh⟩⟩
theorem wpListIn_append_col {F : Fence} {n : Nat} {ops : Array Oper} {rest : List Oper} {o : Oper} {a : Act} {w : World} {Q : Exit → Act → World → Prop} (hgd : o.guard = none) (s x : Operand)
    (ho : o.op = .call { callee := .builtin .append, args := #[s, x], argTypes := #[72, 72] })
    (base : Nat) (v : Value) (L : List (List UInt8)) (y : List UInt8) (hs : a.eval s = v) (hi : Col w base v L) (ad : Addr) (c : Nat)
    (hx : a.eval x = .slice (some ad) 1 c) (hy : w.cell? ad = some (hval y)) (hl : L.length < 2097152) (hbase : base ≤ w.heap.size)
    (h : ∀ v' w', Col w' base v' (L ++ [y]) → w.grownBy w' v.ownBlock → wpListIn F n Try.prog ops Q rest (a.put o.dst v') w') : wpListIn F n Try.prog ops Q (o :: rest) a w := by
  obtain ⟨i0, hi0, hz0, hz1, hz2⟩ := info_parts infoStr
  refine wpListIn_append_own w hgd s x 72 ho base 9 i0 (.string ByteArray.empty) 1 16 Try.underlying72 hi0 hz0 hz1 hz2 rfl (by decide) _ _ _ hs hi ad 1 c [hval y] hx rfl ?_ (by simp [hval, Value.oneCell']) (by unfold maxLen; omega) (by omega) hbase ?_
  · intro j u hj
    match j, hj with
    | 0, hj =>
      simp at hj; subst hj
      have e : ad.add 0 = ad := by unfold Addr.add; split <;> simp_all
      rw [e]; exact hy
    | j + 1, hj => simp at hj
  · intro v' w' hown hgr hn
    refine h v' w' ?_ hgr
    unfold Col
    rw [List.length_append, List.map_append]; exact hown
set_option maxRecDepth 100000 in
set_option maxHeartbeats 4000000 in
theorem aps_in (N o : Nat) (hN : N ≤ 100) (ho : o ≤ 100) (hlen : (allH N o).length ≤ 1000) (w : World) (bn bo : Nat) (h1 : bn < w.heap.size) (h2 : bo < w.heap.size) (c1 : w.cell? ⟨bn, 0, none⟩ = some (.int .i64 N)) (c2 : w.cell? ⟨bo, 0, none⟩ = some (.int .i64 o)) :
    CallsIn Fence.wide 6 Try.prog 113 #[.slice none 0 0, .func (.func 114) #[] #[.pointer (some ⟨bn, 0, none⟩), .pointer (some ⟨bo, 0, none⟩)]] w fun e w' => (∃ v, e = .returned v ∧ Col w' w.heap.size v (allH N o)) ∧ Below w.heap.size w w' := by
  refine callsIn_of_wp_marks Try.func113 rfl trivial ?_ rfl
  simp only [Try.ntmps113, List.size_toArray, List.length_cons, List.length_nil, Nat.reduceAdd, Nat.reduceSub, Array.replicate_succ, Array.replicate_zero, List.push_toArray, List.append_toArray, List.nil_append, List.cons_append]
  gi_wp2
  have hOa : Own (w.alloc (.cells #[.slice none 0 0] 72)) w.heap.size #[.slice none 0 0] 72 := Own.new w _ _
  have hBa : Below w.heap.size w (w.alloc (.cells #[.slice none 0 0] 72)) := (Below.refl _ _).alloc (Nat.le_refl _) _
  have hsz : (w.alloc (.cells #[.slice none 0 0] 72)).heap.size = w.heap.size + 1 := by simp
  have hcn := (hBa.cell (p := ⟨bn, 0, none⟩) h1).trans c1
  have hco := (hBa.cell (p := ⟨bo, 0, none⟩) h2).trans c2
  generalize (w.alloc (.cells #[.slice none 0 0] 72)) = wl at *
  refine wpIn_rangeFunc_made wide_round (by omega) (gf := 114) (lb := #[.pointer (some ⟨bn, 0, none⟩), .pointer (some ⟨bo, 0, none⟩)]) rfl trivial (enters_of Try.func114 (by kernel_rfl) rfl)
    (sea_made Fence.wide wide_room trivial trivial wide_round 5 bn bo N o hN ho wl (by omega) (by omega) hcn hco) (Below.refl _ _) (fun _ => rfl)
    w.heap.size (by omega) (fun pre W => ∃ v, Own W w.heap.size #[v] 72 ∧ Col W (w.heap.size + 4) v pre ∧ Below w.heap.size w W) ?hI ⟨_, hOa, Col.nil _ _, hBa⟩
    (fun x => { tmps := #[.slice none 0 0, .func (.func 114) #[] #[.pointer (some ⟨bn, 0, none⟩), .pointer (some ⟨bo, 0, none⟩)], .pointer (some ⟨w.heap.size, 0, none⟩), undef, .slice none 0 0, .string ⟨x.toArray⟩, .func (.func 114) #[] #[.pointer (some ⟨bn, 0, none⟩), .pointer (some ⟨bo, 0, none⟩)], .string ⟨x.toArray⟩, undef, undef, undef, undef, undef], defers := [] }) ?assign ?body ?done
  case hI =>
    rintro pre A B row ⟨v, hO, hC, hB⟩ hg hr
    refine ⟨v, ?_, hC.of_same (fun j hj hA => hg.block j hA (fun e => by have := hr j e.symm; omega)), hB.grown hg hB.size (fun r e => by have := hr r e; omega)⟩
    show B.heap[w.heap.size]? = _
    rw [hg.block _ hO.lt (fun e => by have := hr _ e.symm; omega)]; exact hO
  case assign =>
    intro l x W K hK
    have hz : (#[7].zip #[hval x] : Array (Tmp × Value)) = #[(7, hval x)] := by simp [Array.zip, Array.zipWith, Array.zipWithMAux]
    rw [hz]
    unfold hval
    simp only [List.foldl_toArray', List.foldl_cons, List.foldl_nil]
    gi_wp2
    exact hK
  case body =>
    rintro l pre x rest W hL ⟨v, hO, hC, hB⟩ hs
    have hpl : pre.length < 1000 := by
      have := congrArg List.length hL
      simp at this; omega
    have c1' : W.cell? ⟨w.heap.size, 0, none⟩ = some v := hO.cell 0
    have hge := hC.own_ge
    have hOx : Own (W.alloc (.cells #[(.string ⟨x.toArray⟩)] 9)) W.heap.size #[(.string ⟨x.toArray⟩)] 9 := Own.new W _ _
    have hCx : Col (W.alloc (.cells #[(.string ⟨x.toArray⟩)] 9)) (w.heap.size + 4) v pre := hC.of_same (fun j _ hj => Below.heap_alloc _ _ _ hj)
    have hOO : Own (W.alloc (.cells #[(.string ⟨x.toArray⟩)] 9)) w.heap.size #[v] 72 := hO.alloc _
    have hBx : Below w.heap.size w (W.alloc (.cells #[(.string ⟨x.toArray⟩)] 9)) := hB.alloc hB.size _
    have hBy : Below w.heap.size W (W.alloc (.cells #[(.string ⟨x.toArray⟩)] 9)) := (Below.refl _ W).alloc hB.size _
    have hsame : ∀ k, k < W.heap.size → (W.alloc (.cells #[(.string ⟨x.toArray⟩)] 9)).heap[k]? = W.heap[k]? := fun k hk => Below.heap_alloc _ _ _ hk
    have hszx : (W.alloc (.cells #[(.string ⟨x.toArray⟩)] 9)).heap.size = W.heap.size + 1 := by simp
    clear hL hlen
    gi_wp2_with (first
      | (refine wpListIn_append_col rfl (.tmp 8) (.tmp 10) rfl (w.heap.size + 4) v pre x rfl hCx ⟨W.heap.size, 0, none⟩ 1 rfl (hOx.cell 0) (by omega) (by omega) ?_; intro v2 W2 hC2 hG2; obtain ⟨p2, m2, q2, rfl⟩ := hC2.shape; have hO2 : Own W2 w.heap.size #[v] 72 := ((hG2.block _ hOO.lt (fun e => by have := hge _ e.symm; omega)).trans hOO); have f2 := hO2.free 0; have k2 := hO2.cell 0))
    have gg : ∀ k, v.ownBlock = some k → w.heap.size ≤ k := fun k e => by have := hge _ e; omega
    have bW : Below w.heap.size W W2 := hBy.grown hG2 (by omega) (fun k e => gg k (by first | exact e | exact e.symm))
    have bw : Below w.heap.size w W2 := hBx.grown hG2 (by omega) (fun k e => gg k (by first | exact e | exact e.symm))
    have sW := bW.size
    have z2 : W2.heap.size = W2.heap.size := rfl
    have zG : (W.alloc (.cells #[(.string ⟨x.toArray⟩)] 9)).heap.size ≤ W2.heap.size := hG2.size
    refine ⟨⟨bW.setCell (p := ⟨w.heap.size, 0, none⟩) (Nat.le_refl _) _, by simp; omega, fun j j1 j2 => ?_⟩, .slice p2 m2 q2, hO2.set 0 _, hC2.of_same (fun j hj _ => Below.heap_setCell _ _ _ _ (by show j ≠ w.heap.size; omega)), bw.setCell (p := ⟨w.heap.size, 0, none⟩) (Nat.le_refl _) _⟩
    rw [Below.heap_setCell _ _ _ _ (by show j ≠ w.heap.size; omega), hG2.block j (by omega) (fun e => by have := hge _ e.symm; omega)]
    exact hsame j (by omega)
  case done =>
    rintro D W hD ⟨v, hO, hC, hB⟩ hbl hK
    have c1' : W.cell? ⟨w.heap.size, 0, none⟩ = some v := hO.cell 0
    gi_wp2
    refine ⟨by simp, .inl ⟨_, _, rfl, run_takeDeferred hK, ?_⟩⟩
    have gr := grownBy_putObj' W D (.deferred none)
    have hBD : Below w.heap.size w (W.putObj D (.deferred none)) := hB.grown gr hB.size (fun r e => by cases e; omega)
    exact ⟨_, results_tmp rfl _ _ _, ⟨v, rfl, (hC.put hK _).base (by omega)⟩, hBD⟩
theorem aps_ok (N o : Nat) (hN : N ≤ 100) (ho : o ≤ 100) (hlen : (allH N o).length ≤ 1000) (w : World) (bn bo : Nat) (h1 : bn < w.heap.size) (h2 : bo < w.heap.size) (c1 : w.cell? ⟨bn, 0, none⟩ = some (.int .i64 N)) (c2 : w.cell? ⟨bo, 0, none⟩ = some (.int .i64 o)) :
    Calls Try.prog 113 #[.slice none 0 0, .func (.func 114) #[] #[.pointer (some ⟨bn, 0, none⟩), .pointer (some ⟨bo, 0, none⟩)]] w fun e w' => (∃ v, e = .returned v ∧ Col w' w.heap.size v (allH N o)) ∧ Below w.heap.size w w' :=
  callsIn_wide.1 (aps_in N o hN ho hlen w bn bo h1 h2 c1 c2)
theorem col_ok (N o : Nat) (hN : N ≤ 100) (ho : o ≤ 100) (hlen : (allH N o).length ≤ 1000) (w : World) (bn bo : Nat) (h1 : bn < w.heap.size) (h2 : bo < w.heap.size) (c1 : w.cell? ⟨bn, 0, none⟩ = some (.int .i64 N)) (c2 : w.cell? ⟨bo, 0, none⟩ = some (.int .i64 o)) :
    Calls Try.prog 105 #[.func (.func 114) #[] #[.pointer (some ⟨bn, 0, none⟩), .pointer (some ⟨bo, 0, none⟩)]] w fun e w' => (∃ v, e = .returned v ∧ Col w' w.heap.size v (allH N o)) ∧ Below w.heap.size w w' := by
  have hA := Lib.hid (aps_ok N o hN ho hlen w bn bo h1 h2 c1 c2)
  clear hN ho hlen h1 h2 c1 c2
  go_enter Try.func105, Try.ntmps105
  go_wp2_with (first
    | (go_at_call 113; ((with_reducible refine (hA.out).mono ?_); rintro e w2 ⟨⟨v, rfl, hC⟩, hB⟩)))
  go_ret
  exact ⟨⟨v, rfl, hC⟩, hB⟩
set_option maxRecDepth 100000 in
theorem lis_ok (m : Nat) (h1 : 1 ≤ m) (h6 : m ≤ 6) (w : World) :
    Calls Try.prog 78 #[.int .i64 m] w fun e w' => (∃ v, e = .returned v ∧ Col w' w.heap.size v (allH (2 * m) 0)) ∧ Below w.heap.size w w' := by
  have hS := Lib.hid (fun w => seaI_any (2 * (m : Int)) 0 w)
  have hlen := allH_len12 m h1 h6
  have hA := Lib.hid (col_ok (2 * m) 0 (by omega) (by omega) (by omega) ((w.alloc (.cells #[.int .i64 (2 * (m : Int))] 2)).alloc (.cells #[.int .i64 0] 2)) w.heap.size (w.heap.size + 1) (by simp; omega) (by simp)
    (((Own.new w _ _).alloc _).cell 0) ((Own.at (w.alloc (.cells #[.int .i64 (2 * (m : Int))] 2)) _ _ (by simp)).cell 0))
  go_enter Try.func78, Try.ntmps78
  go_wp2_with (first
    | (go_at_call 106; ((with_reducible refine (hS.out _).mono ?_); rintro e w1 ⟨rfl, rfl⟩))
    | (go_at_call 105; ((with_reducible refine (hA.out).mono ?_); rintro e w2 ⟨⟨v, rfl, hC⟩, hB⟩)))
  go_ret
  have b0 : Below w.heap.size w ((w.alloc (.cells #[.int .i64 (2 * (m : Int))] 2)).alloc (.cells #[.int .i64 0] 2)) := ((Below.refl _ _).alloc (Nat.le_refl _) _).alloc (by simp) _
  exact ⟨⟨v, rfl, hC.base b0.size⟩, b0.trans (hB.mono b0.size)⟩
end Go.Proofs.Ytlgdeciikliihaa
