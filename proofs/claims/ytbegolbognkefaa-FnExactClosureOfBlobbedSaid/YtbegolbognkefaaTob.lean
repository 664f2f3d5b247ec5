/- The program's text of a diagram with blobs. -/
import Derived.Test.YtbegolbognkefaaOpl
import Derived.Test.YtbegolbognkefaaKin
import Derived.Test.YtbegolbognkefaaOnS
import Derived.Deep.CutRange
namespace Go.Proofs.Ytbegolbognkefaa
open Go.RowKit Go.Lib
set_option linter.unusedVariables false
set_option linter.unusedSimpArgs false
theorem Byf.free {w : World} {base g cap : Nat} {xs : List Int} (h : Byf w base g cap xs) (j : Nat) (hj : j < xs.length) : w.frozen? ⟨g, j, none⟩ = false := by
  obtain ⟨_, h2, _, cur, fz, ho, hfz, hs, ht⟩ := h
  obtain ⟨lo, hi'⟩ := fz
  simp only [World.frozen?, ho, Bool.and_eq_false_iff, decide_eq_false_iff_not]
  rcases hfz with e | e
  · simp only [Prod.mk.injEq] at e; right; omega
  · left; simp only at e; omega
theorem Byf.set {w : World} {base g cap : Nat} {xs : List Int} (h : Byf w base g cap xs) (j : Nat) (hj : j < xs.length) (x : Int) : Byf (w.setCell ⟨g, j, none⟩ (.int .u8 x)) base g cap (xs.set j x) := by
  have hlt := h.lt
  obtain ⟨h1, h2, h3, cur, fz, ho, hfz, hs, ht⟩ := h
  refine ⟨h1, by simpa using h2, h3, cur.setIfInBounds j (.int .u8 x), fz, ?_, hfz, by simpa using hs, ?_⟩
  · have h' : w.heap[g] = .cells cur 5 fz := by simpa [Array.getElem?_eq_getElem hlt] using ho
    show (w.heap.modify g _)[g]? = _
    rw [Array.getElem?_eq_getElem (by simpa using hlt), Array.getElem_modify_self, h']
    rfl
  · rw [List.length_set, Array.toList_setIfInBounds, List.take_set, ht, List.map_set]
theorem Byf.drewN {w : World} {base g cap : Nat} {xs : List Int} (h : Byf w base g cap xs) (n : Nat) : Byf (w.drewN n) base g cap xs := h
theorem Prs.drewN {w : World} {base g cap : Nat} {xs : List Value} (h : Prs w base g cap xs) (n : Nat) : Prs (w.drewN n) base g cap xs := h
theorem Prs.set {w : World} {base g cap : Nat} {xs : List Value} (h : Prs w base g cap xs) {a : Addr} (ha : a.block ≠ g) (v : Value) : Prs (w.setCell a v) base g cap xs := by
  obtain ⟨h1, h2, h3, cur, ho, hs, ht⟩ := h
  exact ⟨h1, h2, h3, cur, ho.other ha v, hs, ht⟩
def oc (b : Bool) : Int := if b then 91 else 40
def cc (b : Bool) : Int := if b then 93 else 41
/-- The letters behind j parts. -/
def lbl (n : Int) (bs : List Bool) (L : List Int) (P : List (Nat × Nat)) : Nat → List Int
  | 0 => L
  | j + 1 => ((lbl n bs L P j).set (P.getD j (0, 0)).1 (oc (bs.getD (pl n ((P.getD j (0, 0)).1 : Int)).toNat false))).set ((P.getD j (0, 0)).2 - 1) (cc (bs.getD (pl n ((P.getD j (0, 0)).1 : Int)).toNat false))
theorem lbl_len (n : Int) (bs : List Bool) (L : List Int) (P : List (Nat × Nat)) (j : Nat) : (lbl n bs L P j).length = L.length := by
  induction j with
  | zero => rfl
  | succ j ih => rw [lbl, List.length_set, List.length_set, ih]
theorem lbl_step (n : Int) (bs : List Bool) (L : List Int) (P : List (Nat × Nat)) (j f e : Nat) (h : P[j]? = some (f, e)) (b : Bool) (hb : bs.getD (pl n (f : Int)).toNat false = b) : lbl n bs L P (j + 1) = ((lbl n bs L P j).set f (oc b)).set (e - 1) (cc b) := by
  have : P.getD j (0, 0) = (f, e) := by rw [List.getD_eq_getElem?_getD, h]; rfl
  rw [lbl, this, hb]
/-- The letters of a diagram with blobs. -/
def LB (n : Int) (ms : List Int) (bs : List Bool) : List Int := lbl n bs (LT n ms) (cutP (LT n ms) (2 * n).toNat).1 (cutP (LT n ms) (2 * n).toNat).1.length
theorem LB_len (n : Int) (ms : List Int) (bs : List Bool) (h : 0 ≤ n) : (LB n ms bs).length = (2 * n).toNat := by unfold LB; rw [lbl_len, LT_len n ms h]
theorem mK1 : ∀ w : World, Sem.run Try.prog (method 237 89 (.agg #[]) "loop.example/g01251/impl.brackets") w = .ok (65, .agg #[]) w := by intro w; kernel_rfl
theorem mK0 : ∀ w : World, Sem.run Try.prog (method 237 91 (.agg #[]) "loop.example/g01251/impl.brackets") w = .ok (66, .agg #[]) w := by intro w; kernel_rfl
theorem Mn.own {w : World} {B g : Nat} {xs : List Int} (h : Mn w B (some ⟨g, 0, none⟩) xs) : B ≤ g ∧ ∃ sp, Own w g (scells xs sp) 2 := by
  rcases h with ⟨h, _⟩ | ⟨g', sp, h, hg, ho⟩
  · cases h
  · injection h with h
    injection h with h
    subst h; exact ⟨hg, sp, ho⟩
set_option maxRecDepth 100000 in
set_option maxHeartbeats 8000000 in
theorem tobI_any (n : Int) (ms : List Int) (bs : List Bool) (hms : ms.length = 16) (hbs : bs.length = 16) (hb : Bytes ms) (hd : isD n ms = true) (w : World) :
    Calls Try.prog 46 #[.agg (bcl n ms bs)] w fun e w' => e = .returned (.string (strOfNums (LB n ms bs))) ∧ Below w.heap.size w w' := by
  have hn := net_of n ms hms hb hd
  obtain ⟨h1, h8⟩ := hn.bd
  have hl := Lib.hid hms
  have hk := Lib.hid hbs
  obtain ⟨T, hT⟩ : ∃ T, textS n ms = T := ⟨_, rfl⟩
  obtain ⟨N, hN⟩ : ∃ N, (2 * n).toNat = N := ⟨_, rfl⟩
  have hTs : T.size = N := by
    have := text_len n ms (by omega)
    rw [hT, size_list] at this; omega
  have hLT : LI T.data.toList = LT n ms := by rw [← hT]; rfl
  have hLl : (LT n ms).length = N := by rw [LT_len n ms (by omega), hN]
  have ht := Lib.hid (fun w => textI_any n ms hms hb w h1 h8)
  rw [hT] at ht
  have hol := Lib.hid (fun w => oplI_any n ms hms hb hd w)
  obtain ⟨P, hP⟩ : ∃ P, (cutP (LT n ms) N).1 = P := ⟨_, rfl⟩
  have hpo := Lib.hid (show P.map (fun q => pl n (q.1 : Int)) = opl n ms by rw [← hP, ← hN]; exact opl_cut hn)
  have hcp := Lib.hid (show ∀ k, k < P.length → ∃ f e, P[k]? = some (f, e) ∧ f < e ∧ e ≤ N from fun k hk => by
    rw [← hP] at hk ⊢
    obtain ⟨f, e, a1, a2, a3, _⟩ := cut_part _ _ _ hk
    exact ⟨f, e, a1, a2, a3⟩)
  have hpl := Lib.hid (show P.length ≤ N by rw [← hP]; exact (cutP_bd _ _).1)
  have hLB := Lib.hid (show LB n ms bs = lbl n bs (LT n ms) P P.length by unfold LB; rw [hN, hP])
  have hout := Lib.hid (show ∀ g cap w, N ≤ cap → RdL w g (LT n ms) → Calls Try.prog 63 #[.slice (some ⟨g, 0, none⟩) N cap] w fun e w' => ∃ g' cap', e = .returned (.slice (some ⟨g', 0, none⟩) P.length cap') ∧ Prs w' w.heap.size g' cap' (P.map (pv g)) ∧ Below w.heap.size w w' from fun g cap w hc hR => by
    have := out_any g N cap (LT n ms) hLl (by omega) hc (by rw [← hLT]; exact LI_bytes _) w hR
    unfold OutPost at this
    rw [hLl, hP] at this
    exact this)
  have hcs : ∀ w : World, (convert 9 66 (.string T)).run Try.prog w = .ok (.slice (some ⟨w.heap.size, 0, none⟩) N (grownCap w N 0 5)) (bytesWorld w 5 T) := fun w => by
    rw [← hTs]
    exact Lib.run_convert_string_bytes w 9 66 5 T Try.underlying9 Try.underlying66 Try.underlying5
  have hge := Lib.hid (show ∀ w : World, N ≤ grownCap w N 0 5 from fun w => by have := grownCap_ge w N 0 5; omega)
  have hbyf := Lib.hid (show ∀ w : World, Byf (bytesWorld w 5 T) w.heap.size w.heap.size (grownCap w N 0 5) (LT n ms) from fun w => by
    have := Byf.conv w w.heap.size T (Nat.le_refl _) (by omega)
    rw [hTs, hLT] at this; exact this)
  have hN16 : N ≤ 16 := by omega
  have hN2 : (N : Int) = 2 * n := by omega
  have hLl2 := Lib.hid hLl
  clear hms hbs hb hd hn hT hLT hLl hP hTs hN
  go_enter Try.func46, Try.ntmps46
  go_wp2_with (first
    | (go_at_call 63; ((with_reducible refine (hout.out _ _ _ (hge.out w1) (RdL.of_byf ((hbyf.out w1).below hB2 (by rw [bytesWorld_size]; omega)))).mono ?_); rintro e w3 ⟨g3, cap3, rfl, hP3, hB3⟩))
    | (refine wpList_load_part rfl 28 _ rfl _ 0 rfl (dcells _ _) _ (Own.bdia ((hO1.below (below_conv w1 w1.heap.size T (Nat.le_refl _)) hO1.lt)) (hl.out)) Try.underlying28 rfl (row26 (d17 _ _ (hl.out))) ?_)
    | (go_at_call 42; ((with_reducible refine (hol.out _).mono ?_); rintro e w2 ⟨gp, capp, rfl, hM2, hB2⟩))
    | (refine wpList_load_part rfl 28 _ rfl _ 0 rfl (dcells _ _) _ (Own.bdia (Own.new _ _ _) (hl.out)) Try.underlying28 rfl (row26 (d17 _ _ (hl.out))) ?_)
    | (go_at_call 62; ((with_reducible refine (ht.out _).mono ?_); rintro e w1 ⟨rfl, hB1⟩; have hO1 : Own w1 w.heap.size (bcl n ms bs) 38 := (Own.new _ _ _).below hB1 (by simp))))
  have hs1 := hB1.size
  have hs1 : w.heap.size + 1 ≤ w1.heap.size := by simpa using hs1
  have q1 := below_conv w1 w1.heap.size T (Nat.le_refl _)
  have s1 := bytesWorld_size w1 5 T
  have s2 := hB2.size
  obtain ⟨hgp, sp, hOp⟩ := hM2.own
  have b0 : Below w.heap.size w (w.alloc (.cells (bcl n ms bs) 38)) := (Below.refl _ _).alloc (Nat.le_refl _) _
  have b1 := b0.trans (hB1.mono b0.size)
  have b2 := (b1.trans (q1.mono b1.size)).trans (hB2.mono (by rw [s1]; omega))
  have nB := b2.trans (hB3.mono b2.size)
  have nO : Own w3 w.heap.size (bcl n ms bs) 38 := ((hO1.below q1 hO1.lt).below hB2 (by rw [s1]; omega)).below hB3 (by omega)
  have nL : Byf w3 w1.heap.size w1.heap.size (grownCap w1 N 0 5) (lbl n bs (LT n ms) P 0) := ((hbyf.out w1).below hB2 (by rw [s1]; omega)).below hB3 (by omega)
  have nP : Own w3 gp (scells (opl n ms) sp) 2 := hOp.below hB3 hOp.lt
  have hg3 := hP3.1
  have d1 : w.heap.size ≠ w1.heap.size := by omega
  have d2 : gp ≠ w1.heap.size := by omega
  have d3 : g3 ≠ w1.heap.size := by omega
  have d4 : w.heap.size ≤ w1.heap.size := by omega
  obtain ⟨W2, hW2⟩ : ∃ x, x = w2.heap.size := ⟨_, rfl⟩
  rw [← hW2] at hP3
  obtain ⟨g1, hg1⟩ : ∃ x, x = w1.heap.size := ⟨_, rfl⟩
  obtain ⟨cap1, hc1⟩ : ∃ x, x = grownCap w1 N 0 5 := ⟨_, rfl⟩
  rw [← hg1] at nL hP3 d1 d2 d3 d4 ⊢
  rw [← hc1] at nL ⊢
  clear hW2 hg1 hc1 hg3 hgp hOp b0 b1 b2 s1 s2 hs1 q1 hB1 hB2 hB3 hO1 hM2 ht hol hout hcs hge hbyf
  go_loopw [17] (fun i wr => ∃ k : Nat, k ≤ P.length ∧ i = .int .i64 k ∧ Own wr w.heap.size (bcl n ms bs) 38 ∧ Own wr gp (scells (opl n ms) sp) 2 ∧ Prs wr W2 g3 cap3 (P.map (pv g1)) ∧ Byf wr g1 g1 cap1 (lbl n bs (LT n ms) P k) ∧ Below w.heap.size w wr) (fun i _ => (P.length - intOf i).toNat)
  case atStart => exact ⟨0, by omega, rfl, nO, nP, hP3, nL, nB⟩
  case round =>
    clear nO nP hP3 nL nB
    obtain ⟨k, hkp, rfl, hO, hPp, hPr, hL, hB⟩ := hrel
    have hpll := hpl.out
    have hll := Lib.hid (show (lbl n bs (LT n ms) P k).length = N by rw [lbl_len]; exact hLl2.out)
    by_cases hlt : k < P.length
    · obtain ⟨f, e, hPk, hfe, heN⟩ := hcp.out k hlt
      have hop : (opl n ms).getD k 0 = pl n f := by
        rw [← hpo.out, List.getD_eq_getElem?_getD, List.getElem?_map, hPk]; rfl
      have hoL := Lib.hid (show (opl n ms).length = P.length by rw [← hpo.out, List.length_map])
      have pb := pl_bd n f h8 (by omega) (by omega)
      obtain ⟨p, hp⟩ : ∃ p, pl n (f : Int) = p := ⟨_, rfl⟩
      rw [hp] at hop pb
      obtain ⟨b, hbv⟩ : ∃ b, bs.getD p.toNat false = b := ⟨_, rfl⟩
      have hst := Lib.hid (lbl_step n bs (LT n ms) P k f e hPk b (by rw [hp]; exact hbv))
      have c1 := hPr.cell k (by rw [List.length_map]; exact hlt)
      rw [List.getElem?_map, hPk] at c1
      have c1' : wr.cell? ⟨g3, k, none⟩ = some (.slice (some ⟨g1, f, none⟩) (e - f) (e - f)) := c1
      have hcp2 := Lib.hid (show ∀ wd, Own wd gp (scells (opl n ms) sp) 2 → wd.cell? ⟨gp, k, none⟩ = some (.int .i64 p) from fun wd h => by rw [h.cell, scells_get _ _ _ (by rw [hoL.out]; exact hlt), hop])
      have hkd := Lib.hid (fun wd => kind_any n ms bs hl.out hk.out p pb.1 pb.2.2 b hbv wd)
      have kI : (k : Int) < (P.length : Int) := by omega
      have hoLI : ((opl n ms).length : Int) = (P.length : Int) := by rw [hoL.out]
      have ef1 : ((e - f : Nat) : Int) = (e : Int) - (f : Int) := by omega
      have ef2 : 1 ≤ ((e - f : Nat) : Int) := by omega
      have ef3 : ((e - f : Nat) : Int) ≤ 16 := by omega
      have ef4 : (((e - f : Nat) : Int) - 1).toNat = e - f - 1 := by omega
      have ef5 : f + (e - f - 1) = e - 1 := by omega
      obtain ⟨q, hq⟩ : ∃ q, e - f = q := ⟨_, rfl⟩
      rw [hq] at c1' ef1 ef2 ef3 ef4 ef5
      have hq1 : 1 ≤ q := by omega
      obtain ⟨x, hx⟩ : ∃ x, e - 1 = x := ⟨_, rfl⟩
      rw [hx] at ef5 hst
      have xN : x < N := by omega
      have ef6 : ((q : Int) - 1).toNat = q - 1 := by omega
      have heq := Lib.hid hPk
      clear hPk hop hp hbv c1 pb ef1
      go_upto_region 6 with fail
      refine gen_world (fun x => Own x w.heap.size (bcl n ms bs) 38 ∧ Own x gp (scells (opl n ms) sp) 2 ∧ Prs x W2 g3 cap3 (P.map (pv g1)) ∧ Byf x g1 g1 cap1 (lbl n bs (LT n ms) P k) ∧ Below w.heap.size w x) ⟨hO, hPp, hPr, hL, hB⟩ ?_
      clear hO hPp hPr hL hB c1'
      rintro wx ⟨hO, hPp, hPr, hL, hB⟩
      refine wp_region_st (fun x => Own x w.heap.size (bcl n ms bs) 38 ∧ Own x gp (scells (opl n ms) sp) 2) [(true, 0), (true, 1), (true, 2), (true, 3), (true, 4), (true, 5), (true, 6), (true, 7), (true, 8), (true, 9), (false, 10), (false, 11), (true, 12), (true, 13), (true, 14), (false, 15), (false, 16)] 17 (by kernel_rfl) (by kernel_rfl) ⟨hO.drewN 1, hPp.drewN 1⟩ ?_
      have hOd : Own { wx with drawn := wx.drawn + 1 } w.heap.size (bcl n ms bs) 38 := hO
      have hPd : Own { wx with drawn := wx.drawn + 1 } gp (scells (opl n ms) sp) 2 := hPp
      have hRd : Prs { wx with drawn := wx.drawn + 1 } W2 g3 cap3 (P.map (pv g1)) := hPr
      have hLd : Byf { wx with drawn := wx.drawn + 1 } g1 g1 cap1 (lbl n bs (LT n ms) P k) := hL
      have hBd : Below w.heap.size w { wx with drawn := wx.drawn + 1 } := hB.drew
      clear hO hPp hPr hL hB
      generalize ({ wx with drawn := wx.drawn + 1 } : World) = w8 at *
      simp only [List.map_cons, List.map_nil, opS'_mk, opN_zero, opN_succ, List.drop_succ_cons, List.drop_zero]
      (apply wpSt_read; · (intro wd hS K hK; clear hS; go_simp; exact hK))
      (apply wpSt_read; · (intro wd hS K hK; clear hS; go_simp; exact hK))
      (apply wpSt_read; · (intro wd hS K hK; clear hS; go_simp; exact hK))
      (apply wpSt_read; · (intro wd hS K hK; clear hS; go_simp; exact hK))
      (apply wpSt_read; · (intro wd hS K hK; clear hS; go_simp; exact hK))
      (apply wpSt_read; · (intro wd hS K hK; rw [if_pos (by rfl)]; refine still_load_row 38 (.tmp 1) rfl w.heap.size rfl 38 (bcl n ms bs) _ hS.1 Try.underlying38 rfl (rowB (b33 _ _ _ hl.out hk.out)) ?_; exact hK))
      (apply wpSt_read; · (intro wd hS K hK; clear hS; go_simp; exact hK))
      (apply wpSt_read; · (intro wd hS K hK; clear hS; go_simp; exact hK))
      (apply wpSt_read; · (intro wd hS K hK; clear hS; go_simp; exact hK))
      (apply wpSt_read; · (intro wd hS K hK; have d3 := hcp2.out wd hS.2; clear hS; go_simp; exact hK))
      refine wpSt_keep (fun K hK => ?_)
      go_wp2_with (first
        | (go_at_call 68; ((with_reducible refine (hkd.out w8).mono ?_); rintro e w9 ⟨rfl, hB9⟩)))
      refine hK _ _ ⟨hOd.below hB9 hOd.lt, hPd.below hB9 hPd.lt⟩ rfl ?_
      clear hK K
      have KO := hOd.below hB9 hOd.lt
      have KP := hPd.below hB9 hPd.lt
      have KR := hRd.below hB9 hRd.lt
      have KL := hLd.below hB9 hLd.lt
      have KB := hBd.trans (hB9.mono hBd.size)
      clear hOd hPd hRd hLd hBd hB9
      cases b with
      | true =>
        have mk := mK1
        simp only [show lk true = Value.iface 89 (.agg #[]) from rfl]
        refine wpSt_keep (fun K hK => ?_)
        go_wp2_with (first
          | (go_at_call 65; ((with_reducible refine (brk1_any w9).mono ?_); rintro e wa ⟨rfl, hBa⟩)))
        refine hK _ _ ⟨KO.below hBa KO.lt, KP.below hBa KP.lt⟩ rfl ?_
        clear hK K
        have hOa := KO.below hBa KO.lt
        have hPa := KP.below hBa KP.lt
        have hRa := KR.below hBa KR.lt
        have hLa := KL.below hBa KL.lt
        have hBa' := KB.trans (hBa.mono KB.size)
        clear KO KP KR KL KB hBa mk
        (apply wpSt_read; · (intro wd hS K hK; clear hS; go_simp; exact hK))
        (apply wpSt_read; · (intro wd hS K hK; clear hS; go_simp; exact hK))
        (apply wpSt_read; · (intro wd hS K hK; clear hS; go_simp; exact hK))
        have e1 := hLa.cell f (by rw [hll.out]; omega)
        have e2 := hLa.free f (by rw [hll.out]; omega)
        have e2' := hLa.free x (by rw [hll.out]; omega)
        have hL1 := hLa.set f (by rw [hll.out]; omega) 91
        have e3 := hL1.cell (x) (by rw [List.length_set, hll.out]; omega)
        have e4 := hL1.free (x) (by rw [List.length_set, hll.out]; omega)
        have hL2 := hL1.set (x) (by rw [List.length_set, hll.out]; omega) 93
        have KL := Lib.hid (show Byf ((wa.setCell ⟨g1, f, none⟩ (.int .u8 91)).setCell ⟨g1, x, none⟩ (.int .u8 93)) g1 g1 cap1 (lbl n bs (LT n ms) P (k + 1)) by rw [hst.out]; exact hL2)
        have hO1 := hOa.other (a := ⟨g1, f, none⟩) (fun h => d1 h.symm) (.int .u8 91)
        have hP1 := hPa.other (a := ⟨g1, f, none⟩) (fun h => d2 h.symm) (.int .u8 91)
        have KO := Lib.hid (hO1.other (a := ⟨g1, x, none⟩) (fun h => d1 h.symm) (.int .u8 93))
        have KP := Lib.hid (hP1.other (a := ⟨g1, x, none⟩) (fun h => d2 h.symm) (.int .u8 93))
        have KR := Lib.hid ((hRa.set (a := ⟨g1, f, none⟩) (fun h => d3 h.symm) (.int .u8 91)).set (a := ⟨g1, x, none⟩) (fun h => d3 h.symm) (.int .u8 93))
        have KB := Lib.hid ((hBa'.setCell (p := ⟨g1, f, none⟩) d4 (.int .u8 91)).setCell (p := ⟨g1, x, none⟩) d4 (.int .u8 93))
        have S1 := Lib.hid (show Own wa w.heap.size (bcl n ms bs) 38 ∧ Own wa gp (scells (opl n ms) sp) 2 from ⟨hOa, hPa⟩)
        have S2 := Lib.hid (show Own (wa.setCell ⟨g1, f, none⟩ (.int .u8 91)) w.heap.size (bcl n ms bs) 38 ∧ Own (wa.setCell ⟨g1, f, none⟩ (.int .u8 91)) gp (scells (opl n ms) sp) 2 from ⟨hO1, hP1⟩)
        clear hOa hPa hRa hLa hBa' hL1 hL2 hO1 hP1
        have hwq : IntKind.i64.wrap ((q : Int) - 1) = (q : Int) - 1 := IntWalk.i64_in _ (by omega)
        simp only [hwq]
        refine wpSt_keep (fun K hK => ?_)
        go_wp2
        refine hK _ _ S1.out rfl ?_
        clear hK K
        refine wpSt_keep (fun K hK => ?_)
        go_wp2
        refine hK _ _ S2.out rfl ?_
        clear hK K
        refine wpSt_nil ?_
        go_wp2
        go_roundw
        case rel => exact ⟨k + 1, by omega, by go_num, KO.out, KP.out, KR.out, KL.out, KB.out⟩
        case measure => simp [intOf]; omega
      | false =>
        have mk := mK0
        simp only [show lk false = Value.iface 91 (.agg #[]) from rfl]
        refine wpSt_keep (fun K hK => ?_)
        go_wp2_with (first
          | (go_at_call 66; ((with_reducible refine (brk0_any w9).mono ?_); rintro e wa ⟨rfl, hBa⟩)))
        refine hK _ _ ⟨KO.below hBa KO.lt, KP.below hBa KP.lt⟩ rfl ?_
        clear hK K
        have hOa := KO.below hBa KO.lt
        have hPa := KP.below hBa KP.lt
        have hRa := KR.below hBa KR.lt
        have hLa := KL.below hBa KL.lt
        have hBa' := KB.trans (hBa.mono KB.size)
        clear KO KP KR KL KB hBa mk
        (apply wpSt_read; · (intro wd hS K hK; clear hS; go_simp; exact hK))
        (apply wpSt_read; · (intro wd hS K hK; clear hS; go_simp; exact hK))
        (apply wpSt_read; · (intro wd hS K hK; clear hS; go_simp; exact hK))
        have e1 := hLa.cell f (by rw [hll.out]; omega)
        have e2 := hLa.free f (by rw [hll.out]; omega)
        have e2' := hLa.free x (by rw [hll.out]; omega)
        have hL1 := hLa.set f (by rw [hll.out]; omega) 40
        have e3 := hL1.cell (x) (by rw [List.length_set, hll.out]; omega)
        have e4 := hL1.free (x) (by rw [List.length_set, hll.out]; omega)
        have hL2 := hL1.set (x) (by rw [List.length_set, hll.out]; omega) 41
        have KL := Lib.hid (show Byf ((wa.setCell ⟨g1, f, none⟩ (.int .u8 40)).setCell ⟨g1, x, none⟩ (.int .u8 41)) g1 g1 cap1 (lbl n bs (LT n ms) P (k + 1)) by rw [hst.out]; exact hL2)
        have hO1 := hOa.other (a := ⟨g1, f, none⟩) (fun h => d1 h.symm) (.int .u8 40)
        have hP1 := hPa.other (a := ⟨g1, f, none⟩) (fun h => d2 h.symm) (.int .u8 40)
        have KO := Lib.hid (hO1.other (a := ⟨g1, x, none⟩) (fun h => d1 h.symm) (.int .u8 41))
        have KP := Lib.hid (hP1.other (a := ⟨g1, x, none⟩) (fun h => d2 h.symm) (.int .u8 41))
        have KR := Lib.hid ((hRa.set (a := ⟨g1, f, none⟩) (fun h => d3 h.symm) (.int .u8 40)).set (a := ⟨g1, x, none⟩) (fun h => d3 h.symm) (.int .u8 41))
        have KB := Lib.hid ((hBa'.setCell (p := ⟨g1, f, none⟩) d4 (.int .u8 40)).setCell (p := ⟨g1, x, none⟩) d4 (.int .u8 41))
        have S1 := Lib.hid (show Own wa w.heap.size (bcl n ms bs) 38 ∧ Own wa gp (scells (opl n ms) sp) 2 from ⟨hOa, hPa⟩)
        have S2 := Lib.hid (show Own (wa.setCell ⟨g1, f, none⟩ (.int .u8 40)) w.heap.size (bcl n ms bs) 38 ∧ Own (wa.setCell ⟨g1, f, none⟩ (.int .u8 40)) gp (scells (opl n ms) sp) 2 from ⟨hO1, hP1⟩)
        clear hOa hPa hRa hLa hBa' hL1 hL2 hO1 hP1
        have hwq : IntKind.i64.wrap ((q : Int) - 1) = (q : Int) - 1 := IntWalk.i64_in _ (by omega)
        simp only [hwq]
        refine wpSt_keep (fun K hK => ?_)
        go_wp2
        refine hK _ _ S1.out rfl ?_
        clear hK K
        refine wpSt_keep (fun K hK => ?_)
        go_wp2
        refine hK _ _ S2.out rfl ?_
        clear hK K
        refine wpSt_nil ?_
        go_wp2
        go_roundw
        case rel => exact ⟨k + 1, by omega, by go_num, KO.out, KP.out, KR.out, KL.out, KB.out⟩
        case measure => simp [intOf]; omega
    · have e : k = P.length := by omega
      subst e
      obtain ⟨_, hcap1, _, cur, fz, hcur, _, hcs', hct⟩ := hL
      have hlen := hll.out
      have hcv := run_convert_bytes_arg wr 66 5 Try.underlying66 Try.underlying5 g1 0 N cap1 (lbl n bs (LT n ms) P P.length) hlen
        (fun i hi => by
          have e0 : wr.cell? ⟨g1, 0 + i, none⟩ = cur[i]? := by rw [Nat.zero_add]; simp [World.cell?, hcur]
          rw [e0]
          have e : (cur.toList.take (lbl n bs (LT n ms) P P.length).length)[i]? = ((lbl n bs (LT n ms) P P.length).map (Value.int .u8))[i]? := by rw [hct]
          rw [List.getElem?_take_of_lt (by rw [hlen]; exact hi)] at e
          simpa [show i < (lbl n bs (LT n ms) P P.length).length by rw [hlen]; exact hi] using e) 9 Try.underlying9
      rw [← hLB.out] at hcv
      clear hlen hct hcs' hcur hPr hcap1
      go_wp2
      go_ret
      exact ⟨rfl, hB⟩
end Go.Proofs.Ytbegolbognkefaa
