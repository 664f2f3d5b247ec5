/- AllBlobbed, the program's and the model's. -/
import Derived.Test.YtpjlienelkflhaaApb
import Derived.Test.YtpjlienelkflhaaOla
import Derived.Test.YtpjlienelkflhaaAll
namespace Go.Proofs.Ytpjlienelkflhaa
open Go.RowKit Go.Lib
set_option linter.unusedVariables false
set_option linter.unusedSimpArgs false
def OplC (xs : List Int) (w : World) (e : Ending) (w' : World) : Prop :=
  ∃ g cap sp, e = .returned (.slice (some ⟨g, 0, none⟩) xs.length cap) ∧ xs.length ≤ cap ∧ w.heap.size ≤ g ∧ Own w' g (scells xs sp) 2 ∧ Below w.heap.size w w'
set_option maxRecDepth 100000 in
set_option maxHeartbeats 4000000 in
theorem oplI_cap (n : Int) (ms : List Int) (hms : ms.length = 16) (hb : Bytes ms) (hd : isD n ms = true) (w : World) :
    Calls Try.prog 38 #[.agg (dcells n ms)] w (OplC (opl n ms) w) := by
  have hn := net_of n ms hms hb hd
  obtain ⟨h1, h8⟩ := hn.bd
  have hl := Lib.hid hms
  have c0 := dcells_zero n ms
  obtain ⟨T, hT⟩ : ∃ T, textS n ms = T := ⟨_, rfl⟩
  obtain ⟨N, hN⟩ : ∃ N, (2 * n).toNat = N := ⟨_, rfl⟩
  have hTs : T.size = N := by
    have := text_len n ms (by omega)
    rw [hT, size_list] at this; omega
  have hLT : LI T.data.toList = LT n ms := by rw [← hT]; rfl
  have hLl : (LT n ms).length = N := by rw [LT_len n ms (by omega), hN]
  have ht := Lib.hid (fun w => textI_any n ms hms hb w h1 h8)
  rw [hT] at ht
  obtain ⟨P, hP⟩ : ∃ P, (cutP (LT n ms) N).1 = P := ⟨_, rfl⟩
  have hpo := Lib.hid (show P.map (fun q => pl n (q.1 : Int)) = opl n ms by rw [← hP, ← hN]; exact opl_cut hn)
  have hcp := Lib.hid (show ∀ k, k < P.length → ∃ f e, P[k]? = some (f, e) ∧ f < e ∧ e ≤ N ∧ f = pend P k ∧ e = pend P (k + 1) from fun k hk => by rw [← hP] at hk ⊢; exact cut_part _ _ _ hk)
  have hpl := Lib.hid (show P.length ≤ N by rw [← hP]; exact (cutP_bd _ _).1)
  have hout := Lib.hid (show ∀ g cap w, N ≤ cap → RdL w g (LI T.data.toList) → Calls Try.prog 50 #[.slice (some ⟨g, 0, none⟩) N cap] w fun e w' => ∃ g' cap', e = .returned (.slice (some ⟨g', 0, none⟩) P.length cap') ∧ Prs w' w.heap.size g' cap' (P.map (pv g)) ∧ Below w.heap.size w w' from fun g cap w hc hR => by
    rw [hLT] at hR
    have := out_any g N cap (LT n ms) hLl (by omega) hc (by rw [← hLT]; exact LI_bytes _) w hR
    unfold OutPost at this
    rw [hLl, hP] at this
    exact this)
  have hcs : ∀ w : World, (convert 9 70 (.string T)).run Try.prog w = .ok (.slice (some ⟨w.heap.size, 0, none⟩) N (grownCap w N 0 5)) (bytesWorld w 5 T) := fun w => by
    rw [← hTs]
    exact Lib.run_convert_string_bytes w 9 70 5 T Try.underlying9 Try.underlying70 Try.underlying5
  have hge := Lib.hid (show ∀ w : World, N ≤ grownCap w N 0 5 from fun w => by have := grownCap_ge w N 0 5; omega)
  have hrd := Lib.hid (show ∀ w : World, RdL (bytesWorld w 5 T) w.heap.size (LI T.data.toList) from fun w => RdL.of_byf (Byf.conv w 0 T (Nat.zero_le _) (by omega)))
  have hmk := mk0i
  have HTs := Lib.hid hTs
  have HN := Lib.hid hN
  have hN16 : N ≤ 16 := by omega
  have hN2 : (N : Int) = 2 * n := by omega
  clear hms hb hd hn hT hLT hLl hP hTs hN
  go_enter Try.func38, Try.ntmps38
  go_wp2_with (first
    | (refine wpList_load_row rfl 30 _ rfl _ rfl 30 _ (0, 0) _ ((Own.new _ _ _).alloc _) Try.underlying30 rfl (row26 (d17 _ _ (hl.out))) ?_)
    | (go_at_call 49; ((with_reducible refine (ht.out _).mono ?_); rintro e w1 ⟨rfl, hB1⟩))
    | (go_at_call 50; ((with_reducible refine (hout.out _ _ _ (hge.out w1) (hrd.out w1)).mono ?_); rintro e w2 ⟨g2, cap2, rfl, hP2, hB2⟩)))
  have b0 : Below w.heap.size w ((w.alloc (.cells (dcells n ms) 30)).alloc (.cells #[] 2)) := ((Below.refl _ _).alloc (Nat.le_refl _) _).alloc (by simp) _
  have n0 : Own ((w.alloc (.cells (dcells n ms) 30)).alloc (.cells #[] 2)) w.heap.size (dcells n ms) 30 := (Own.new _ _ _).alloc _
  have i0 : Ints ((w.alloc (.cells (dcells n ms) 30)).alloc (.cells #[] 2)) (w.heap.size + 1) (w.heap.size + 1) 0 [] := Ints.new _ _ _ _ (by simp) (by simp) (by decide) #[] rfl
  have hs1 := hB1.size
  have q1 := below_conv w1 w1.heap.size T (Nat.le_refl _)
  have hB12 := (hB1.trans (q1.mono hs1)).trans (hB2.mono (by rw [bytesWorld_size]; omega))
  have l0 := n0.lt
  have l1 := i0.lt
  have nO := n0.below hB12 l0
  have nI := i0.below hB12 l1
  have nB := b0.trans (hB12.mono b0.size)
  have hP2' := hP2
  have hPb : w.heap.size + 2 ≤ g2 := by have := hP2.1; rw [bytesWorld_size] at this; simp at hs1; omega
  clear hmk hcs hB1 hB2 q1 hB12 n0 i0 b0 c0 hs1 l0 l1 hP2' ht hout hge hrd
  obtain ⟨W2, hW2⟩ : ∃ x, x = (bytesWorld w1 5 T).heap.size := ⟨_, rfl⟩
  rw [← hW2] at hP2
  clear hW2
  go_loopw [3, 4, 13] (fun ps pl' i wr => ∃ (k g cap : Nat), k ≤ P.length ∧ i = .int .i64 k ∧ pl' = .int .i64 (pend P k : Nat) ∧ ps = .slice (some ⟨g, 0, none⟩) k cap ∧ g ≠ g2 ∧ Own wr w.heap.size (dcells n ms) 30 ∧ Ints wr (w.heap.size + 1) g cap ((P.take k).map (fun q => pl n (q.1 : Int))) ∧ Prs wr W2 g2 cap2 (P.map (pv w1.heap.size)) ∧ Below w.heap.size w wr) (fun _ _ i _ => (P.length - intOf i).toNat)
  case atStart => exact ⟨0, _, _, by omega, rfl, rfl, rfl, by omega, nO, by simpa using nI, hP2, nB⟩
  case round =>
    clear nO nI nB hP2
    obtain ⟨k, g, cap, hk, rfl, rfl, rfl, hne, hO, hI, hR, hB⟩ := hrel
    have hpll := hpl.out
    by_cases hlt : k < P.length
    · obtain ⟨f, e, hPk, hfe, heN, hf, he⟩ := hcp.out k hlt
      have c1 := hR.cell k (by rw [List.length_map]; exact hlt)
      rw [List.getElem?_map, hPk] at c1
      have c1' : wr.cell? ⟨g2, k, none⟩ = some (.slice (some ⟨w1.heap.size, f, none⟩) (e - f) (e - f)) := c1
      have hst := Lib.hid (show (P.take (k + 1)).map (fun q => pl n (q.1 : Int)) = (P.take k).map (fun q => pl n (q.1 : Int)) ++ [pl n f] by
        rw [List.take_add_one, hPk, List.map_append]; rfl)
      have hln := Lib.hid (show ((P.take k).map (fun q => pl n (q.1 : Int))).length = k by simp; omega)
      obtain ⟨X, hX⟩ : ∃ X, (P.take k).map (fun q => pl n (q.1 : Int)) = X := ⟨_, rfl⟩
      rw [hX] at hI hst hln
      have k0 := hO.cell 0
      rw [dcells_zero] at k0
      have hsz := hB.size
      have hgb := hI.1
      have hol := hO.lt
      have hq : X.length < 100 := by rw [hln.out]; omega
      have kI : (k : Int) < (P.length : Int) := by omega
      have e1 : (f : Int) + ((e - f : Nat) : Int) = (e : Int) := by omega
      rw [← hf]
      have he' := Lib.hid he
      have hf' := Lib.hid hf
      have hg2 : g ≠ g2 := hne
      have f0 : (f : Int) < 2 * n := by omega
      have heff : ((e - f : Nat) : Int) ≤ 16 := by omega
      clear he hf hPk c1 hne hX
      go_wp2_with (first
        | (go_at_call 51; ((with_reducible refine (pointI_any n f _ (by omega) h8 (by omega) (by omega)).mono ?_); rintro e w0 ⟨rfl, rfl⟩))
        | (refine wpList_append_ints rfl (.tmp 17) (.tmp 22) rfl (w.heap.size + 1) g cap X (pl n f) (by unfold ival; rw [hln.out]; rfl) (hI.alloc _) ⟨wr.heap.size, 0, none⟩ 1 rfl ((Own.new _ _ _).cell 0) (by omega) (by simp <;> omega) ?_; intro g3 cap3 w3 hI3 hG3))
      have hO3 := (hO.alloc _).grown hG3 (by omega)
      have hR3 := (hR.alloc _).grown hG3 (by omega)
      have hB3 : Below w.heap.size w w3 := (hB.alloc hsz _).grown hG3 (by simp; omega) (fun k e => by simp at e; omega)
      rw [← hst.out] at hI3
      have hiv : ival g3 cap3 (X ++ [pl n f]) = .slice (some ⟨g3, 0, none⟩) (k + 1) cap3 := by unfold ival; rw [List.length_append, hln.out]; rfl
      have hne3 : g3 ≠ g2 := by
        intro e
        subst e
        obtain ⟨_, _, _, cu, hcu, _⟩ := hI3
        obtain ⟨_, _, _, cv, hcv, _⟩ := hR3
        have := (show w3.heap[g3]? = _ from hcu).symm.trans hcv
        simp at this
      clear hO hR hB hI hG3 c1'
      go_roundw
      case rel => exact ⟨k + 1, g3, cap3, by omega, by go_num, by rw [← he'.out], hiv, hne3, hO3, hI3, hR3, hB3⟩
      case measure => simp [intOf]; omega
    · have e : k = P.length := by omega
      subst e
      have hl2 := Lib.hid (show P.length = (opl n ms).length by rw [← hpo.out, List.length_map])
      rw [List.take_length, hpo.out] at hI
      have hM := Lib.hid (Mn.ints (B := w.heap.size) (Nat.le_succ _) hI)
      have hCp := Lib.hid hI.2.1
      clear hI hR
      go_wp2
      go_ret
      rcases hM.out with ⟨e, _⟩ | ⟨g', sp, e, hg', hO'⟩
      · cases e
      · cases e; exact ⟨g, cap, sp, by rw [hl2.out]; rfl, hCp.out, hg', hO', hB⟩

theorem still_bld {P : Program} {o : Oper} {a : Act} {w : World} {K : Act → Prop} (t : TypeId) (parts : Array (Nat × Operand)) (ho : o.op = .build t parts)
    (cs : Array Value) (hf : P.built t (parts.toList.map fun (i, x) => (i, a.eval x)) = some cs) (h : K (a.put o.dst (.agg cs))) : o.still P a w K := by
  have hr : (Instr.build t (parts.map fun (i, x) => (i, a.eval x))).run P w = .ok (.agg cs) w := run_build w t _ cs (by rw [Array.toList_map, hf])
  unfold Oper.still execOp
  simp only [ho, Sem.run_bind, hr, Result.andThen_ok, Sem.run_pure]
  rw [Oper.stillUpon_value]; exact h
/-- All diagrams with blobs on some of these diagrams' open lines. -/
def bls (ds : List DgR) : List BlR := ds.flatMap (fun d => rws d.1 d.2 (fl d.2 (opl d.1 d.2) zbs))
theorem bls_succ (ds : List DgR) (k : Nat) (h : k < ds.length) (dn : Int) (dm : List Int) (hd : ds.getD k (0, zeros) = (dn, dm)) : bls (ds.take (k + 1)) = bls (ds.take k) ++ rws dn dm (fl dm (opl dn dm) zbs) := by
  rw [List.getD_eq_getElem?_getD, List.getElem?_eq_getElem h] at hd
  have hd' : ds[k] = (dn, dm) := hd
  rw [List.take_add_one, List.getElem?_eq_getElem h, hd']
  simp [bls]
theorem bls_len (n : Nat) (h1 : 1 ≤ n) (h8 : n ≤ 8) (k : Nat) (h : k ≤ (allD n).length) : (bls ((allD n).take k)).length ≤ 65536 * k := by
  induction k with
  | zero => simp [bls]
  | succ k ih =>
    have hd := allD_get n h1 h8 k (by omega)
    rw [bls_succ _ k (by omega) ((allD n).getD k (0, zeros)).1 ((allD n).getD k (0, zeros)).2 rfl, List.length_append]
    have a := ih (by omega)
    have b : (rws ((allD n).getD k (0, zeros)).1 ((allD n).getD k (0, zeros)).2 (fl ((allD n).getD k (0, zeros)).2 (opl ((allD n).getD k (0, zeros)).1 ((allD n).getD k (0, zeros)).2) zbs)).length ≤ 65536 := by
      unfold rws
      rw [List.length_map, fl_len]
      exact Nat.le_trans (Nat.pow_le_pow_right (by omega) (opl_le _ _ (by rw [hd.size]; omega))) (by decide : 2 ^ 16 ≤ 65536)
    omega
theorem bls_16 (ds : List DgR) (h : LD16 ds) : LB16 (bls ds) := by
  intro d hd
  unfold bls at hd
  rw [List.mem_flatMap] at hd
  obtain ⟨e, he, hd⟩ := hd
  unfold rws at hd
  rw [List.mem_map] at hd
  obtain ⟨b, hb, rfl⟩ := hd
  exact ⟨h e he, fl_16 _ _ _ zbsl b hb⟩
theorem allD_14 (n : Nat) (h1 : 1 ≤ n) (h4 : n ≤ 4) : (allD n).length ≤ 14 := by
  have h : n = 1 ∨ n = 2 ∨ n = 3 ∨ n = 4 := by omega
  unfold allD
  rw [List.length_map]
  rcases h with rfl | rfl | rfl | rfl <;> decide +kernel
theorem mk0l : ∀ w : World, (Instr.buildSlice 41 0 #[]).run Try.prog w = .ok (.slice (some ⟨w.heap.size, 0, none⟩) 0 0) (w.alloc (.cells #[] 64)) := by
  intro w; kernel_rfl
theorem RowL.new0 (w : World) (base n : Nat) (hb : base ≤ w.heap.size) (hw : w.heap.size = n) : RowL (w.alloc (.cells #[] 64)) base (.slice (some ⟨n, 0, none⟩) 0 0) [] := by
  subst hw
  exact ⟨rfl, .inr ⟨_, 0, #[], rfl, hb, Own.new _ _ _, Nat.le_refl _, by unfold maxLen; omega, rfl, rfl⟩⟩
/-- A slice of diagrams stands through a call that appends to another. -/
theorem RowD.fram {v v' u : Value} {w w' : World} {base base' : Nat} {ds : List DgR} {bs : List BlR} (h : RowD w base u ds) (hf : Fram v w v' w') (hR : RowL w base' v bs) : RowD w' base u ds :=
  h.kept (fun g e => by
    obtain ⟨_, _, cs, ho⟩ := h.own g e
    exact (hf.2.1 _ _ _ ho (hR.ne ho (by decide))).trans ho.symm)
def AblPost (n : Nat) (w : World) (e : Ending) (w' : World) : Prop := ∃ v', e = .returned (.tuple #[v', .int .i64 0]) ∧ RowL w' w.heap.size v' (bls (allD n)) ∧ Below w.heap.size w w'
set_option maxRecDepth 100000 in
set_option maxHeartbeats 2000000 in
theorem ablI_ok (n : Nat) (h1 : 1 ≤ n) (h4 : n ≤ 4) (w : World) : Calls Try.prog 22 #[.int .i64 n] w (AblPost n w) := by
  have hmk := mk0l
  have hld := Lib.hid (fun w => ldI_any n h1 (by omega) w)
  have hget := Lib.hid (allD_get n h1 (by omega))
  have hbl := Lib.hid (bls_len n h1 (by omega))
  have h16 := Lib.hid (allD_16 n)
  have hpos := Lib.hid (allD_pos n h1 (by omega))
  have hlen := Lib.hid (allD_14 n h1 h4)
  unfold LdPost at hld
  unfold AblPost
  obtain ⟨ds, hds⟩ : ∃ ds, allD n = ds := ⟨_, rfl⟩
  rw [hds] at hld hget hbl h16 hpos hlen ⊢
  clear hds
  go_enter Try.func22, Try.ntmps22
  go_wp2_with (first
    | (go_at_call 28; ((with_reducible refine (hld.out _).mono ?_); rintro e w1 ⟨v1, rfl, hR1, hB1⟩); obtain ⟨g, cap, rfl, hg, hgl⟩ := hR1.at h16.out hpos.out))
  have nP := hpos.out
  have nL := hlen.out
  have nB : Below w.heap.size w w1 := ((Below.refl _ w).alloc (Nat.le_refl _) _).trans (hB1.mono (by simp))
  have nR := (RowL.new0 w w.heap.size _ (Nat.le_refl _) rfl).below hB1 (Nat.le_refl _)
  have nD : RowD w1 w.heap.size (.slice (some ⟨g, 0, none⟩) ds.length cap) ds := hR1.base (by simp)
  clear hR1 hB1 hgl hg
  go_loopw [4, 17] (fun v i wr => ∃ k : Nat, k ≤ ds.length ∧ i = .int .i64 k ∧ RowL wr w.heap.size v (bls (ds.take k)) ∧ RowD wr w.heap.size (.slice (some ⟨g, 0, none⟩) ds.length cap) ds ∧ Below w.heap.size w wr) (fun _ i _ => (ds.length - intOf i).toNat)
  case atStart => exact ⟨0, by omega, rfl, nR, nD, nB⟩
  case round =>
    clear nR nD nB
    obtain ⟨k, hk, rfl, hL, hR, hB⟩ := hrel
    by_cases hlt : k < ds.length
    · obtain ⟨hsz, hdl, hdb, hdd⟩ := hget.out k hlt
      have hrd := Lib.hid (hR.read h16.out k hlt)
      have hbk := hbl.out k hk
      obtain ⟨⟨dn, dm⟩, hd⟩ : ∃ d, ds.getD k (0, zeros) = d := ⟨_, rfl⟩
      have hst := Lib.hid (bls_succ ds k hlt dn dm hd)
      rw [hd] at hdl hdb hdd hrd hsz
      have hnet := net_of dn dm hdl hdb hdd
      have hop := Lib.hid (fun w => oplI_cap dn dm hdl hdb hdd w)
      have hok := Lib.hid (opl_ok hnet)
      have hol : (opl dn dm).length ≤ 16 := opl_le _ _ hnet.bd.2
      have hl := Lib.hid (show dm.length = 16 from hdl)
      have hap := Lib.hid (fun sp g cap v w' (hc : (opl dn dm).length ≤ cap) (a : Own w' g (scells (opl dn dm) sp) 2) (b : RowL w' w.heap.size v (bls (ds.take k))) (c : w.heap.size ≤ w'.heap.size) => apbI_any dn dm hdl (opl dn dm) sp g hok.out hol (opl dn dm).length 0 cap w.heap.size ⟨g, 0, none⟩ zbs v (bls (ds.take k)) w' (by omega) hc (fun _ => rfl) zbsl a b c (by
        have : 2 ^ (opl dn dm).length ≤ 2 ^ 16 := Nat.pow_le_pow_right (by omega) hol
        have h0 := hlen.out
        omega))
      simp only [List.drop_zero] at hap
      unfold FilPost at hap
      unfold OplC at hop
      obtain ⟨P, hP⟩ : ∃ P, opl dn dm = P := ⟨_, rfl⟩
      rw [hP] at hop hap hst hol
      obtain ⟨Y, hY⟩ : ∃ Y, bls (ds.take k) = Y := ⟨_, rfl⟩
      rw [hY] at hap hst hL
      have kI : (k : Int) < (ds.length : Int) := by omega
      have h17 := Lib.hid (show (dcells dn dm).toList.length = 17 from dl17 hl.out)
      have hws := hB.size
      clear hdl hdb hdd hd hP hnet hok hbk hsz hY
      go_upto_region 7 with (first
        | (refine wpList_load_at rfl 30 (.tmp 19) rfl ⟨g, k * 17, none⟩ rfl (dcells dn dm).toList _ hrd.out Try.underlying30 rfl (by rw [h17.out]; kernel_rfl) ?_)
        | (refine wpList_store_own rfl 30 _ _ rfl _ _ rfl rfl 30 _ (Own.new wr _ _) (row26 (d17 _ _ (hl.out))) (z_eq (d17 _ _ hl.out)) (dcells_one _ _) ?_; intro w2 hO2 hN2))
      have q1 := (hL.alloc (.cells zcells 30)).kept (fun g e => hN2.other g (Nat.ne_of_lt (hL.own g e).2.1))
      have q2 := (hR.alloc (.cells zcells 30)).kept (fun g e => hN2.other g (Nat.ne_of_lt (hR.own g e).2.1))
      have q3 : Below w.heap.size w w2 := (hB.alloc hws _).trans (hN2.below.mono hws)
      obtain ⟨b6, hb6⟩ : ∃ b6, wr.heap.size = b6 := ⟨_, rfl⟩
      rw [hb6] at hO2 ⊢
      refine gen_world (fun x => Own x b6 (dcells dn dm) 30 ∧ RowL x w.heap.size u4 Y ∧ RowD x w.heap.size (.slice (some ⟨g, 0, none⟩) ds.length cap) ds ∧ Below w.heap.size w x) ⟨hO2, q1, q2, q3⟩ ?_
      clear hO2 q1 q2 q3 hN2 hL hR hB hrd hb6
      rintro x ⟨hO, hL, hR, hB⟩
      refine wp_region_st (fun x => Own x b6 (dcells dn dm) 30) [(true, 0), (true, 1), (true, 2), (true, 3), (false, 4)] 5 (by kernel_rfl) (by kernel_rfl) (hO.drewN 1) ?_
      have hOd : Own { x with drawn := x.drawn + 1 } b6 (dcells dn dm) 30 := hO
      have hLd : RowL { x with drawn := x.drawn + 1 } w.heap.size u4 Y := hL
      have hRd : RowD { x with drawn := x.drawn + 1 } w.heap.size (.slice (some ⟨g, 0, none⟩) ds.length cap) ds := hR
      have hBd : Below w.heap.size w { x with drawn := x.drawn + 1 } := hB.drew
      clear hO hL hR hB
      generalize ({ x with drawn := x.drawn + 1 } : World) = w3 at *
      simp only [List.map_cons, List.map_nil, opS'_mk, opN_zero, opN_succ, List.drop_succ_cons, List.drop_zero]
      (apply wpSt_read; · (intro wd hS K hK; clear hS; go_simp; exact hK))
      (apply wpSt_read; · (intro wd hS K hK; rw [if_pos (by rfl)]; refine still_load_row 30 (.tmp 6) rfl b6 rfl 30 (dcells dn dm) _ hS Try.underlying30 rfl (row26 (d17 _ _ hl.out)) ?_; exact hK))
      (apply wpSt_read; · (intro wd hS K hK; clear hS; rw [if_pos (by rfl)]; refine still_bld 64 #[(0, .tmp 22)] rfl (bcl dn dm zbs) (by exact builtB1 _ _ hl.out) ?_; exact hK))
      (apply wpSt_read; · (intro wd hS K hK; rw [if_pos (by rfl)]; refine still_load_row 30 (.tmp 6) rfl b6 rfl 30 (dcells dn dm) _ hS Try.underlying30 rfl (row26 (d17 _ _ hl.out)) ?_; exact hK))
      refine wpSt_keep (fun K hK => ?_)
      go_wp2_with (first
        | (go_at_call 38; ((with_reducible refine (hop.out w3).mono ?_); rintro e w4 ⟨g4, c4, sp, rfl, hc4, hg4, hP4, hB4⟩)))
      refine hK _ _ (hOd.below hB4 hOd.lt) rfl ?_
      clear hK K
      have hL4 := hLd.below hB4 (Nat.le_refl _)
      have hR4 := hRd.below hB4 (Nat.le_refl _)
      have b4 : Below w.heap.size w w4 := hBd.trans (hB4.mono hBd.size)
      clear hOd hLd hRd hBd hB4
      refine wpSt_nil ?_
      go_wp2_with (first
        | (go_at_call 41; ((with_reducible refine (hap.out sp g4 c4 u4 w4 hc4 hP4 hL4 b4.size).mono ?_); rintro e w5 ⟨v5, rfl, hL5, hF5, hB5⟩)))
      have hR5 := hR4.fram hF5 hL4
      rw [← hst.out] at hL5
      go_roundw
      case rel => exact ⟨k + 1, by omega, by go_num, hL5, hR5, b4.trans hB5⟩
      case measure => simp [intOf]; omega
    · have e : k = ds.length := by omega
      subst e
      rw [List.take_length] at hL
      clear hR
      go_wp2
      go_ret2
      exact ⟨_, rfl, hL, hB⟩
end Go.Proofs.Ytpjlienelkflhaa
