/- The program's lines of a diagram that are open to the left. -/
import Derived.Test.YtpjlienelkflhaaOut
import Derived.Test.YtpjlienelkflhaaByf
import Derived.Test.YtpjlienelkflhaaMark
namespace Go.Proofs.Ytpjlienelkflhaa
open Go.RowKit Go.Lib
set_option linter.unusedVariables false
set_option linter.unusedSimpArgs false
/-- Where the first k parts end. -/
def pend (P : List (Nat × Nat)) (k : Nat) : Nat := if k = 0 then 0 else (P.getD (k - 1) (0, 0)).2
theorem getD_app {α : Type} (l : List α) (x d : α) (j : Nat) (h : j < l.length) : (l ++ [x]).getD j d = l.getD j d := by
  rw [List.getD_eq_getElem?_getD, List.getD_eq_getElem?_getD, List.getElem?_append_left h]
theorem getD_last {α : Type} (l : List α) (x d : α) : (l ++ [x]).getD l.length d = x := by
  rw [List.getD_eq_getElem?_getD, List.getElem?_append_right (Nat.le_refl _), Nat.sub_self]; rfl
theorem pend_app (P : List (Nat × Nat)) (x : Nat × Nat) (k : Nat) (h : k ≤ P.length) : pend (P ++ [x]) k = pend P k := by
  unfold pend
  by_cases e : k = 0
  · rw [if_pos e, if_pos e]
  · rw [if_neg e, if_neg e, getD_app _ _ _ _ (by omega)]
theorem cut_contig (L : List Int) (k : Nat) : (∀ j, j < (cutP L k).1.length → ((cutP L k).1.getD j (0, 0)).1 = pend (cutP L k).1 j) ∧ (cutP L k).2.1 = pend (cutP L k).1 (cutP L k).1.length := by
  induction k with
  | zero => exact ⟨fun j hj => by simp [cutP] at hj, rfl⟩
  | succ k ih =>
    obtain ⟨h1, h2⟩ := ih
    rw [cutP]
    split
    · refine ⟨fun j hj => ?_, ?_⟩
      · simp only at hj ⊢
        rw [List.length_append, List.length_singleton] at hj
        rw [pend_app _ _ _ (by omega)]
        by_cases e : j < (cutP L k).1.length
        · rw [getD_app _ _ _ _ e]; exact h1 j e
        · have : j = (cutP L k).1.length := by omega
          subst this
          rw [getD_last]; exact h2
      · simp only
        rw [List.length_append, List.length_singleton]
        unfold pend
        rw [if_neg (by omega), Nat.add_sub_cancel, getD_last]
    · exact ⟨h1, h2⟩
theorem pend_succ (P : List (Nat × Nat)) (k : Nat) : pend P (k + 1) = (P.getD k (0, 0)).2 := rfl
theorem cut_part (L : List Int) (N k : Nat) (h : k < (cutP L N).1.length) : ∃ f e, (cutP L N).1[k]? = some (f, e) ∧ f < e ∧ e ≤ N ∧ f = pend (cutP L N).1 k ∧ e = pend (cutP L N).1 (k + 1) := by
  obtain ⟨q, hq⟩ : ∃ q, (cutP L N).1[k]? = some q := ⟨_, List.getElem?_eq_getElem h⟩
  have hd : (cutP L N).1.getD k (0, 0) = q := by rw [List.getD_eq_getElem?_getD, hq]; rfl
  have h1 := (cut_contig L N).1 k h
  have h2 := pend_succ (cutP L N).1 k
  rw [hd] at h1 h2
  have hb := (cutP_bd L N).2.2.2.2 q (List.mem_of_getElem? hq)
  exact ⟨q.1, q.2, hq, hb.1, hb.2, h1, h2.symm⟩
theorem pend_le (L : List Int) (N k : Nat) (h : k ≤ (cutP L N).1.length) : pend (cutP L N).1 k ≤ N := by
  unfold pend
  by_cases e : k = 0
  · rw [if_pos e]; omega
  · rw [if_neg e]
    obtain ⟨q, hq⟩ : ∃ q, (cutP L N).1[k - 1]? = some q := ⟨_, List.getElem?_eq_getElem (by omega)⟩
    rw [List.getD_eq_getElem?_getD, hq]
    exact ((cutP_bd L N).2.2.2.2 q (List.mem_of_getElem? hq)).2
/-- The points of lines that are open to the left. -/
def opl (n : Int) (ms : List Int) : List Int := (starts n ms (2 * n).toNat).map (fun s : Nat => pl n (s : Int))
/-- Letters of a diagram. -/
def LT (n : Int) (ms : List Int) : List Int := LI (textS n ms).data.toList
theorem LT_len (n : Int) (ms : List Int) (h : 0 ≤ n) : (LT n ms).length = (2 * n).toNat := by
  unfold LT; rw [LI_len]; have := text_len n ms h; omega
theorem LT_get (n : Int) (ms : List Int) (k : Nat) (h : (k : Int) < 2 * n) : (LT n ms).getD k 0 = if (k : Int) < qq n ms k then 40 else 41 := by
  unfold LT LI
  rw [List.getD_eq_getElem?_getD, List.getElem?_map, text_get n ms k h]
  split <;> rfl
theorem LT_lett (n : Int) (ms : List Int) : Lett n ms (LT n ms) := by
  intro k hk
  rw [LT_get n ms k hk]
  split <;> decide
theorem LI_bytes (l : List UInt8) : Bytes (LI l) := by
  intro x hx
  unfold LI at hx
  rw [List.mem_map] at hx
  obtain ⟨c, _, rfl⟩ := hx
  have := c.toNat_lt
  omega
theorem cut_LT {n : Int} {ms : List Int} (h : Net n ms) : (cutP (LT n ms) (2 * n).toNat).1 = (starts n ms (2 * n).toNat).map (prt n ms) := cut_all h _ (LT_lett n ms)
theorem opl_cut {n : Int} {ms : List Int} (h : Net n ms) : (cutP (LT n ms) (2 * n).toNat).1.map (fun q => pl n (q.1 : Int)) = opl n ms := by
  rw [cut_LT h, List.map_map]
  rfl
theorem RdL.of_byf {w : World} {base g cap : Nat} {xs : List Int} (h : Byf w base g cap xs) : RdL w g xs := ⟨h.lt, fun j hj => h.cell j hj⟩
theorem net_of (n : Int) (ms : List Int) (hms : ms.length = 16) (hb : Bytes ms) (hd : isD n ms = true) : Net n ms := Net.of hb ((isD_iff n ms hms hb).1 hd)

theorem mk0i : ∀ w : World, (Instr.buildSlice 57 0 #[]).run Try.prog w = .ok (.slice (some ⟨w.heap.size, 0, none⟩) 0 0) (w.alloc (.cells #[] 2)) := by
  intro w; kernel_rfl
def OplPost (xs : List Int) (w : World) (e : Ending) (w' : World) : Prop :=
  ∃ g cap, e = .returned (.slice (some ⟨g, 0, none⟩) xs.length cap) ∧ Mn w' w.heap.size (some ⟨g, 0, none⟩) xs ∧ Below w.heap.size w w'
set_option maxRecDepth 100000 in
set_option maxHeartbeats 4000000 in
theorem oplI_any (n : Int) (ms : List Int) (hms : ms.length = 16) (hb : Bytes ms) (hd : isD n ms = true) (w : World) :
    Calls Try.prog 38 #[.agg (dcells n ms)] w (OplPost (opl n ms) w) := by
  have hn := net_of n ms hms hb hd
  obtain ⟨h1, h8⟩ := hn.bd
  have hl := Lib.hid hms
  have c0 := dcells_zero n ms
  obtain ⟨T, hT⟩ : ∃ T, textS n ms = T := ⟨_, rfl⟩
  obtain ⟨N, hN⟩ : ∃ N, (2 * n).toNat = N := ⟨_, rfl⟩
  have hTs : T.size = N := by
    have := text_len n ms (by omega)
    rw [hT, size_list] at this; omega
  have hLT : LI T.data.toList = LT n ms := by rw [← hT]; rfl
  have hLl : (LT n ms).length = N := by rw [LT_len n ms (by omega), hN]
  have ht := Lib.hid (fun w => textI_any n ms hms hb w h1 h8)
  rw [hT] at ht
  obtain ⟨P, hP⟩ : ∃ P, (cutP (LT n ms) N).1 = P := ⟨_, rfl⟩
  have hpo := Lib.hid (show P.map (fun q => pl n (q.1 : Int)) = opl n ms by rw [← hP, ← hN]; exact opl_cut hn)
  have hcp := Lib.hid (show ∀ k, k < P.length → ∃ f e, P[k]? = some (f, e) ∧ f < e ∧ e ≤ N ∧ f = pend P k ∧ e = pend P (k + 1) from fun k hk => by rw [← hP] at hk ⊢; exact cut_part _ _ _ hk)
  have hpl := Lib.hid (show P.length ≤ N by rw [← hP]; exact (cutP_bd _ _).1)
  have hout := Lib.hid (show ∀ g cap w, N ≤ cap → RdL w g (LI T.data.toList) → Calls Try.prog 50 #[.slice (some ⟨g, 0, none⟩) N cap] w fun e w' => ∃ g' cap', e = .returned (.slice (some ⟨g', 0, none⟩) P.length cap') ∧ Prs w' w.heap.size g' cap' (P.map (pv g)) ∧ Below w.heap.size w w' from fun g cap w hc hR => by
    rw [hLT] at hR
    have := out_any g N cap (LT n ms) hLl (by omega) hc (by rw [← hLT]; exact LI_bytes _) w hR
    unfold OutPost at this
    rw [hLl, hP] at this
    exact this)
  have hcs : ∀ w : World, (convert 9 70 (.string T)).run Try.prog w = .ok (.slice (some ⟨w.heap.size, 0, none⟩) N (grownCap w N 0 5)) (bytesWorld w 5 T) := fun w => by
    rw [← hTs]
    exact Lib.run_convert_string_bytes w 9 70 5 T Try.underlying9 Try.underlying70 Try.underlying5
  have hge := Lib.hid (show ∀ w : World, N ≤ grownCap w N 0 5 from fun w => by have := grownCap_ge w N 0 5; omega)
  have hrd := Lib.hid (show ∀ w : World, RdL (bytesWorld w 5 T) w.heap.size (LI T.data.toList) from fun w => RdL.of_byf (Byf.conv w 0 T (Nat.zero_le _) (by omega)))
  have hmk := mk0i
  have HTs := Lib.hid hTs
  have HN := Lib.hid hN
  have hN16 : N ≤ 16 := by omega
  have hN2 : (N : Int) = 2 * n := by omega
  clear hms hb hd hn hT hLT hLl hP hTs hN
  go_enter Try.func38, Try.ntmps38
  go_wp2_with (first
    | (refine wpList_load_row rfl 30 _ rfl _ rfl 30 _ (0, 0) _ ((Own.new _ _ _).alloc _) Try.underlying30 rfl (row26 (d17 _ _ (hl.out))) ?_)
    | (go_at_call 49; ((with_reducible refine (ht.out _).mono ?_); rintro e w1 ⟨rfl, hB1⟩))
    | (go_at_call 50; ((with_reducible refine (hout.out _ _ _ (hge.out w1) (hrd.out w1)).mono ?_); rintro e w2 ⟨g2, cap2, rfl, hP2, hB2⟩)))
  have b0 : Below w.heap.size w ((w.alloc (.cells (dcells n ms) 30)).alloc (.cells #[] 2)) := ((Below.refl _ _).alloc (Nat.le_refl _) _).alloc (by simp) _
  have n0 : Own ((w.alloc (.cells (dcells n ms) 30)).alloc (.cells #[] 2)) w.heap.size (dcells n ms) 30 := (Own.new _ _ _).alloc _
  have i0 : Ints ((w.alloc (.cells (dcells n ms) 30)).alloc (.cells #[] 2)) (w.heap.size + 1) (w.heap.size + 1) 0 [] := Ints.new _ _ _ _ (by simp) (by simp) (by decide) #[] rfl
  have hs1 := hB1.size
  have q1 := below_conv w1 w1.heap.size T (Nat.le_refl _)
  have hB12 := (hB1.trans (q1.mono hs1)).trans (hB2.mono (by rw [bytesWorld_size]; omega))
  have l0 := n0.lt
  have l1 := i0.lt
  have nO := n0.below hB12 l0
  have nI := i0.below hB12 l1
  have nB := b0.trans (hB12.mono b0.size)
  have hP2' := hP2
  have hPb : w.heap.size + 2 ≤ g2 := by have := hP2.1; rw [bytesWorld_size] at this; simp at hs1; omega
  clear hmk hcs hB1 hB2 q1 hB12 n0 i0 b0 c0 hs1 l0 l1 hP2' ht hout hge hrd
  obtain ⟨W2, hW2⟩ : ∃ x, x = (bytesWorld w1 5 T).heap.size := ⟨_, rfl⟩
  rw [← hW2] at hP2
  clear hW2
  go_loopw [3, 4, 13] (fun ps pl' i wr => ∃ (k g cap : Nat), k ≤ P.length ∧ i = .int .i64 k ∧ pl' = .int .i64 (pend P k : Nat) ∧ ps = .slice (some ⟨g, 0, none⟩) k cap ∧ g ≠ g2 ∧ Own wr w.heap.size (dcells n ms) 30 ∧ Ints wr (w.heap.size + 1) g cap ((P.take k).map (fun q => pl n (q.1 : Int))) ∧ Prs wr W2 g2 cap2 (P.map (pv w1.heap.size)) ∧ Below w.heap.size w wr) (fun _ _ i _ => (P.length - intOf i).toNat)
  case atStart => exact ⟨0, _, _, by omega, rfl, rfl, rfl, by omega, nO, by simpa using nI, hP2, nB⟩
  case round =>
    clear nO nI nB hP2
    obtain ⟨k, g, cap, hk, rfl, rfl, rfl, hne, hO, hI, hR, hB⟩ := hrel
    have hpll := hpl.out
    by_cases hlt : k < P.length
    · obtain ⟨f, e, hPk, hfe, heN, hf, he⟩ := hcp.out k hlt
      have c1 := hR.cell k (by rw [List.length_map]; exact hlt)
      rw [List.getElem?_map, hPk] at c1
      have c1' : wr.cell? ⟨g2, k, none⟩ = some (.slice (some ⟨w1.heap.size, f, none⟩) (e - f) (e - f)) := c1
      have hst := Lib.hid (show (P.take (k + 1)).map (fun q => pl n (q.1 : Int)) = (P.take k).map (fun q => pl n (q.1 : Int)) ++ [pl n f] by
        rw [List.take_add_one, hPk, List.map_append]; rfl)
      have hln := Lib.hid (show ((P.take k).map (fun q => pl n (q.1 : Int))).length = k by simp; omega)
      obtain ⟨X, hX⟩ : ∃ X, (P.take k).map (fun q => pl n (q.1 : Int)) = X := ⟨_, rfl⟩
      rw [hX] at hI hst hln
      have k0 := hO.cell 0
      rw [dcells_zero] at k0
      have hsz := hB.size
      have hgb := hI.1
      have hol := hO.lt
      have hq : X.length < 100 := by rw [hln.out]; omega
      have kI : (k : Int) < (P.length : Int) := by omega
      have e1 : (f : Int) + ((e - f : Nat) : Int) = (e : Int) := by omega
      rw [← hf]
      have he' := Lib.hid he
      have hf' := Lib.hid hf
      have hg2 : g ≠ g2 := hne
      have f0 : (f : Int) < 2 * n := by omega
      have heff : ((e - f : Nat) : Int) ≤ 16 := by omega
      clear he hf hPk c1 hne hX
      go_wp2_with (first
        | (go_at_call 51; ((with_reducible refine (pointI_any n f _ (by omega) h8 (by omega) (by omega)).mono ?_); rintro e w0 ⟨rfl, rfl⟩))
        | (refine wpList_append_ints rfl (.tmp 17) (.tmp 22) rfl (w.heap.size + 1) g cap X (pl n f) (by unfold ival; rw [hln.out]; rfl) (hI.alloc _) ⟨wr.heap.size, 0, none⟩ 1 rfl ((Own.new _ _ _).cell 0) (by omega) (by simp <;> omega) ?_; intro g3 cap3 w3 hI3 hG3))
      have hO3 := (hO.alloc _).grown hG3 (by omega)
      have hR3 := (hR.alloc _).grown hG3 (by omega)
      have hB3 : Below w.heap.size w w3 := (hB.alloc hsz _).grown hG3 (by simp; omega) (fun k e => by simp at e; omega)
      rw [← hst.out] at hI3
      have hiv : ival g3 cap3 (X ++ [pl n f]) = .slice (some ⟨g3, 0, none⟩) (k + 1) cap3 := by unfold ival; rw [List.length_append, hln.out]; rfl
      have hne3 : g3 ≠ g2 := by
        intro e
        subst e
        obtain ⟨_, _, _, cu, hcu, _⟩ := hI3
        obtain ⟨_, _, _, cv, hcv, _⟩ := hR3
        have := (show w3.heap[g3]? = _ from hcu).symm.trans hcv
        simp at this
      clear hO hR hB hI hG3 c1'
      go_roundw
      case rel => exact ⟨k + 1, g3, cap3, by omega, by go_num, by rw [← he'.out], hiv, hne3, hO3, hI3, hR3, hB3⟩
      case measure => simp [intOf]; omega
    · have e : k = P.length := by omega
      subst e
      have hl2 := Lib.hid (show P.length = (opl n ms).length by rw [← hpo.out, List.length_map])
      rw [List.take_length, hpo.out] at hI
      have hM := Lib.hid (Mn.ints (B := w.heap.size) (Nat.le_succ _) hI)
      clear hI hR
      go_wp2
      go_ret
      exact ⟨g, cap, by rw [hl2.out]; rfl, hM.out, hB⟩
end Go.Proofs.Ytpjlienelkflhaa
