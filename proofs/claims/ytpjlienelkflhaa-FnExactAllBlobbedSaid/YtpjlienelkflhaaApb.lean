/- Diagrams with blobs on some of their open lines: how the program lists them. -/
import Derived.Test.YtpjlienelkflhaaFil
import Derived.Test.YtpjlienelkflhaaOnS
namespace Go.Proofs.Ytpjlienelkflhaa
open Go.RowKit Go.Lib
set_option linter.unusedVariables false
set_option linter.unusedSimpArgs false
theorem still_sl1 {P : Program} {o : Oper} {a : Act} {w : World} {K : Act → Prop} (t : TypeId) (x lo : Operand) (ho : o.op = .slice t x (some lo) none none)
    (v l u : Value) (hx : a.eval x = v) (hl : a.eval lo = l) (hr : ∀ w, (Instr.sliceAt t v (some l) none none).run P w = .ok u w) (h : K (a.put o.dst u)) : o.still P a w K := by
  unfold Oper.still execOp
  simp only [ho, Option.map_some, Option.map_none, hx, hl, Sem.run_bind, hr, Result.andThen_ok, Sem.run_pure]
  rw [Oper.stillUpon_value]; exact h
/-- Where the rest of a slice begins. -/
def nx (g k c : Nat) : Addr := if c = 1 then ⟨g, k, none⟩ else ⟨g, k + 1, none⟩
theorem nx_pos {g k c : Nat} (h : c ≠ 1) : nx g k c = ⟨g, k + 1, none⟩ := if_neg h
set_option maxRecDepth 100000 in
theorem slRest (g k m c : Nat) (h : m + 1 ≤ c) : ∀ w : World, (Instr.sliceAt 57 (.slice (some ⟨g, k, none⟩) (m + 1) c) (some (.int .i64 1)) none none).run Try.prog w = .ok (.slice (some (nx g k c)) m (c - 1)) w := by
  intro w
  have hs : (sizeOf (Try.prog.elem 57)).run Try.prog w = .ok 1 w := by kernel_rfl
  rw [run_sliceAt_slice w 57 _ _ _ _ (by kernel_rfl), run_slice_l w 57 _ (m + 1) c Try.underlying57 .i64 1 (by omega) (by omega), hs]
  unfold sliced nx
  simp only [Result.andThen]
  by_cases e : c = 1
  · subst e; simp
  · rw [if_neg (by simpa using e), if_neg e]
    simp only [Option.map_some]
    unfold Addr.add
    simp
theorem Fram.below {v v' : Value} {w w' w2 : World} {B : Nat} (h : Fram v w v' w') (hb : Below B w' w2) (hB : w'.heap.size ≤ B) : Fram v w v' w2 := by
  obtain ⟨h1, h2, h3⟩ := h
  exact ⟨Nat.le_trans h1 hb.size, fun k cs t ho hne => (h2 k cs t ho hne).below hb (Nat.lt_of_lt_of_le (h2 k cs t ho hne).lt hB), h3⟩
set_option maxRecDepth 100000 in
set_option maxHeartbeats 4000000 in
theorem apbI_any (n : Int) (ms : List Int) (hms : ms.length = 16) (L : List Int) (sp : List Value) (g : Nat) (hL : PtOk ms L) (hL16 : L.length ≤ 16) (m : Nat) : ∀ (k c base : Nat) (ad : Addr) (bs : List Bool) (v : Value) (ds : List BlR) (w : World),
    k + m = L.length → m ≤ c → (0 < m → ad = ⟨g, k, none⟩) → bs.length = 16 → Own w g (scells L sp) 2 → RowL w base v ds → base ≤ w.heap.size → ds.length + 2 ^ m ≤ 2000000 →
    Calls Try.prog 41 #[v, .agg (bcl n ms bs), .slice (some ad) m c] w (FilPost base v ds n ms (fl ms (L.drop k) bs) w) := by
  induction m with
  | zero =>
    intro k c base ad bs v ds w hk hc had hbs hP hR hb hlen
    obtain rfl : k = L.length := by omega
    rw [List.drop_length]
    have hl := Lib.hid hms
    have hq := Lib.hid hbs
    have hmk := Lib.hid (fun w => mksL n ms bs hms hbs w)
    have hdl : ds.length < 2097152 := by omega
    have hpost := Lib.hid (show ∀ v' w', RowL w' base v' (ds ++ [(n, ms, bs)]) → Fram v w v' w' → Below base w w' → FilPost base v ds n ms (fl ms [] bs) w (.returned v') w' from fun v' w' a b c => ⟨v', rfl, a, b, c⟩)
    clear hms hbs hlen hL hk hL16 had
    go_enter Try.func41, Try.ntmps41
    go_wp2_with (first
      | (refine wpList_load_row rfl 64 _ rfl _ rfl 64 _ (0, 0) _ (Own.new w _ _) Try.underlying64 rfl (rowB (b33 _ _ _ (hl.out) (hq.out))) ?_)
      | (refine wpList_mksl rfl 41 (.tmp 11) rfl (.agg (bcl n ms bs)) (.slice (some ⟨w.heap.size + 1, 0, none⟩) 1 1) rfl (by have := hmk.out (w.alloc (.cells (bcl n ms bs) 64)); simpa using this) ?_)
      | (refine wpList_append_rowL rfl (.tmp 10) (.tmp 12) rfl base v ds n ms bs hl.out hq.out rfl ((hR.alloc _).alloc _) (w.heap.size + 1) 1 rfl (Own.at _ _ _ (by simp)) hdl (by simp; omega) ?_; intro v3 w3 hR3 hG3 hA3))
    have b3 : Below base w w3 := (((Below.refl base w).alloc hb _).alloc (by simp; omega) _).grown hG3 (by simp; omega) (fun k e => ((hR.own k e).1))
    go_ret
    exact hpost.out _ _ hR3 (((Fram.alloc _ _ _).trans (Fram.alloc _ _ _)).trans (Fram.grown hG3 hG3.size hA3)) b3
  | succ m ih =>
    intro k c base ad bs v ds w hk hc had hbs hP hR hb hlen
    obtain rfl := had (by omega)
    have hkl : k < L.length := by omega
    have hdr : L.drop k = L[k] :: L.drop (k + 1) := List.drop_eq_getElem_cons hkl
    rw [hdr, fl]
    obtain ⟨p0, p16, m0, m16⟩ := hL L[k] (List.getElem_mem hkl)
    have hgk : L.getD k 0 = L[k] := by rw [List.getD_eq_getElem?_getD, List.getElem?_eq_getElem hkl]; rfl
    obtain ⟨p, hp⟩ : ∃ p, L[k] = p := ⟨_, rfl⟩
    rw [hp] at p0 p16 m0 m16 hgk ⊢
    obtain ⟨y, hy⟩ : ∃ y, mate ms p = y := ⟨_, rfl⟩
    rw [hy] at m0 m16 ⊢
    have hpow : ds.length + (2 ^ m + 2 ^ m) ≤ 2000000 := by rw [Nat.pow_succ] at hlen; omega
    have hl := Lib.hid hms
    have hq := Lib.hid hbs
    have hq2 := Lib.hid (show (wbl bs p y).length = 16 by rw [wbl_len]; exact hbs)
    have hwb := Lib.hid (fun w => withB_any n ms bs hms hbs p y p0 p16 hy m0 m16 w)
    have hsl := Lib.hid (slRest g k m c (by omega))
    have lA : (rws n ms (fl ms (L.drop (k + 1)) bs)).length = 2 ^ m := by unfold rws; rw [List.length_map, fl_len, List.length_drop]; congr 1; omega
    have i1 := Lib.hid (show ∀ v' w', Own w' g (scells L sp) 2 → RowL w' base v' ds → base ≤ w'.heap.size → Calls Try.prog 41 #[v', .agg (bcl n ms bs), .slice (some (nx g k c)) m (c - 1)] w' (FilPost base v' ds n ms (fl ms (L.drop (k + 1)) bs) w') from fun v' w' a b d => ih (k + 1) (c - 1) base (nx g k c) bs v' ds w' (by omega) (by omega) (fun h => nx_pos (by omega)) hbs a b d (by omega))
    have i2 := Lib.hid (show ∀ v' w', Own w' g (scells L sp) 2 → RowL w' base v' (ds ++ rws n ms (fl ms (L.drop (k + 1)) bs)) → base ≤ w'.heap.size → Calls Try.prog 41 #[v', .agg (bcl n ms (wbl bs p y)), .slice (some (nx g k c)) m (c - 1)] w' (FilPost base v' (ds ++ rws n ms (fl ms (L.drop (k + 1)) bs)) n ms (fl ms (L.drop (k + 1)) (wbl bs p y)) w') from fun v' w' a b d => ih (k + 1) (c - 1) base (nx g k c) (wbl bs p y) v' _ w' (by omega) (by omega) (fun h => nx_pos (by omega)) hq2.out a b d (by rw [List.length_append, lA]; omega))
    obtain ⟨A, hA⟩ : ∃ A, fl ms (L.drop (k + 1)) bs = A := ⟨_, rfl⟩
    obtain ⟨C, hC⟩ : ∃ C, fl ms (L.drop (k + 1)) (wbl bs p y) = C := ⟨_, rfl⟩
    rw [hA] at i1 i2 lA ⊢
    rw [hC] at i2 ⊢
    have hpost := Lib.hid (show ∀ v' w', RowL w' base v' ((ds ++ rws n ms A) ++ rws n ms C) → Fram v w v' w' → Below base w w' → FilPost base v ds n ms (A ++ C) w (.returned v') w' from fun v' w' a b c => ⟨v', rfl, by rw [rws_app, ← List.append_assoc]; exact a, b, c⟩)
    have hck := Lib.hid (show ∀ x : World, Own x g (scells L sp) 2 → x.cell? ⟨g, k, none⟩ = some (.int .i64 p) from fun x h => by rw [h.cell, scells_get _ _ _ hkl, hgk])
    have mne : ¬ ((m : Int) + 1 = 0) := by omega
    have mlt : (0 : Int) < (m : Int) + 1 := by omega
    have m1t : (1 : Int) ≤ (m : Int) + 1 := by omega
    have hgl := hP.lt
    have bx : v.ownBlock ≠ some w.heap.size := hR.fresh (Nat.le_refl _)
    have gx : v.ownBlock ≠ some g := hR.ne hP (by decide)
    unfold FilPost at i1 i2
    clear hms hbs hlen hL hk hdr hgk hp hy hA hC ih hkl hL16 had
    go_enter Try.func41, Try.ntmps41
    go_upto_region 3 with fail
    refine gen_world (fun x => Own x w.heap.size (bcl n ms bs) 64 ∧ Own x g (scells L sp) 2 ∧ RowL x base v ds ∧ Fram v w v x ∧ Below base w x) ⟨Own.new w _ _, hP.alloc _, hR.alloc _, Fram.alloc _ _ _, (Below.refl base w).alloc hb _⟩ ?_
    clear hP hR
    rintro x ⟨hO, hP, hR, hF, hB⟩
    refine wp_region_st (fun x => Own x w.heap.size (bcl n ms bs) 64 ∧ Own x g (scells L sp) 2) [(true, 0), (true, 1), (true, 2), (true, 3)] 4 (by kernel_rfl) (by kernel_rfl) ⟨hO.drewN 1, hP.drewN 1⟩ ?_
    have hOd : Own { x with drawn := x.drawn + 1 } w.heap.size (bcl n ms bs) 64 := hO
    have hPd : Own { x with drawn := x.drawn + 1 } g (scells L sp) 2 := hP
    have hRd : RowL { x with drawn := x.drawn + 1 } base v ds := hR
    have hFd : Fram v w v { x with drawn := x.drawn + 1 } := hF
    have hBd : Below base w { x with drawn := x.drawn + 1 } := hB.drew
    clear hO hP hR hF hB
    generalize ({ x with drawn := x.drawn + 1 } : World) = w1 at *
    simp only [List.map_cons, List.map_nil, opS'_mk, opN_zero, opN_succ, List.drop_succ_cons, List.drop_zero]
    (apply wpSt_read; · (intro wd hS K hK; clear hS; go_simp; exact hK))
    (apply wpSt_read; · (intro wd hS K hK; rw [if_pos (by rfl)]; refine still_load_row 64 (.tmp 4) rfl w.heap.size rfl 64 (bcl n ms bs) _ hS.1 Try.underlying64 rfl (rowB (b33 _ _ _ hl.out hq.out)) ?_; exact hK))
    (apply wpSt_read; · (intro wd hS K hK; clear hS; go_simp; exact hK))
    (apply wpSt_read; · (intro wd hS K hK; clear hS; rw [if_pos (by rfl)]; refine still_sl1 57 (.tmp 16) (.const (.int .i64 1)) rfl (.slice (some ⟨g, k, none⟩) (m + 1) c) (.int .i64 1) (.slice (some (nx g k c)) m (c - 1)) rfl rfl hsl.out ?_; exact hK))
    refine wpSt_nil ?_
    go_upto_region 4 with (first
      | (go_at_call 41; ((with_reducible refine (i1.out v w1 hPd hRd (Nat.le_trans hb hBd.size)).mono ?_); rintro e w2 ⟨v2, rfl, hR2, hF2, hB2⟩)))
    have o2 := hF2.2.1 _ _ _ hOd bx
    have p2 := hF2.2.1 _ _ _ hPd gx
    have nb : v2.ownBlock ≠ some w.heap.size := hF2.ne hOd.lt bx
    refine gen_world (fun x => Own x w.heap.size (bcl n ms bs) 64 ∧ Own x g (scells L sp) 2 ∧ RowL x base v2 (ds ++ rws n ms A) ∧ Fram v w v2 x ∧ Below base w x) ⟨o2, p2, hR2, hFd.trans hF2, hBd.trans hB2⟩ ?_
    clear o2 p2 hR2 hF2 hB2 hOd hPd hRd hFd hBd
    rintro x ⟨hO, hP, hR, hF, hB⟩
    refine wp_region_st (fun x => Own x w.heap.size (bcl n ms bs) 64 ∧ Own x g (scells L sp) 2) [(true, 0), (true, 1), (true, 2), (true, 3), (true, 4), (true, 6), (true, 7), (false, 5)] 8 (by kernel_rfl) (by kernel_rfl) ⟨hO.drewN 1, hP.drewN 1⟩ ?_
    have hOd : Own { x with drawn := x.drawn + 1 } w.heap.size (bcl n ms bs) 64 := hO
    have hPd : Own { x with drawn := x.drawn + 1 } g (scells L sp) 2 := hP
    have hRd : RowL { x with drawn := x.drawn + 1 } base v2 (ds ++ rws n ms A) := hR
    have hFd : Fram v w v2 { x with drawn := x.drawn + 1 } := hF
    have hBd : Below base w { x with drawn := x.drawn + 1 } := hB.drew
    clear hO hP hR hF hB
    generalize ({ x with drawn := x.drawn + 1 } : World) = w3 at *
    simp only [List.map_cons, List.map_nil, opS'_mk, opN_zero, opN_succ, List.drop_succ_cons, List.drop_zero]
    (apply wpSt_read; · (intro wd hS K hK; clear hS; go_simp; exact hK))
    (apply wpSt_read; · (intro wd hS K hK; rw [if_pos (by rfl)]; refine still_load_row 64 (.tmp 4) rfl w.heap.size rfl 64 (bcl n ms bs) _ hS.1 Try.underlying64 rfl (rowB (b33 _ _ _ hl.out hq.out)) ?_; exact hK))
    (apply wpSt_read; · (intro wd hS K hK; clear hS; go_simp; exact hK))
    (apply wpSt_read; · (intro wd hS K hK; clear hS; go_simp; exact hK))
    (apply wpSt_read; · (intro wd hS K hK; have d3 := hck.out wd hS.2; clear hS; go_simp; exact hK))
    (apply wpSt_read; · (intro wd hS K hK; clear hS; go_simp; exact hK))
    (apply wpSt_read; · (intro wd hS K hK; clear hS; rw [if_pos (by rfl)]; refine still_sl1 57 (.tmp 25) (.const (.int .i64 1)) rfl (.slice (some ⟨g, k, none⟩) (m + 1) c) (.int .i64 1) (.slice (some (nx g k c)) m (c - 1)) rfl rfl hsl.out ?_; exact hK))
    refine wpSt_keep (fun K hK => ?_)
    go_wp2_with (first
      | (go_at_call 53; ((with_reducible refine (hwb.out w3).mono ?_); rintro e w4 ⟨rfl, hB4⟩)))
    refine hK _ _ ⟨hOd.below hB4 hOd.lt, hPd.below hB4 hPd.lt⟩ rfl ?_
    clear hK K
    have hP4 := hPd.below hB4 hPd.lt
    have hR4 := hRd.below hB4 (Nat.le_refl _)
    have hF4 := hFd.below hB4 (Nat.le_refl _)
    have b4 : Below base w w4 := hBd.trans (hB4.mono (Nat.le_trans hb hBd.size))
    clear hOd hPd hRd hFd hBd hB4
    refine wpSt_nil ?_
    go_wp2_with (first
      | (go_at_call 41; ((with_reducible refine (i2.out v2 w4 hP4 hR4 (Nat.le_trans hb b4.size)).mono ?_); rintro e w5 ⟨v5, rfl, hR5, hF5, hB5⟩)))
    go_ret
    exact hpost.out _ _ hR5 (hF4.trans hF5) (b4.trans hB5)
end Go.Proofs.Ytpjlienelkflhaa
