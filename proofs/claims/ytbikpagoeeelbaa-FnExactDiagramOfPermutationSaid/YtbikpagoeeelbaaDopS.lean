/- Contracts of the model's DiagramOfPermutation. -/
import Derived.Test.YtbikpagoeeelbaaDopI
namespace Go.Proofs.Ytbikpagoeeelbaa
open Go.RowKit
set_option linter.unusedVariables false
set_option maxRecDepth 100000 in
theorem dopS_bad (p : Option Addr) (cap : Nat) (xs : List Int) (hx : xs.length ≤ 1048576) (w : World) (hR : Rd w p xs) (h : permB xs = false) :
    Calls Try.prog 30 #[.slice p xs.length cap] w fun e w' => e = .returned (.tuple #[.agg zcells, .int .i64 2]) ∧ Below w.heap.size w w' := by
  have hR' := Lib.hid hR
  have hc := Lib.hid (fun w hR => permS_any p cap xs hx w hR)
  rw [h] at hc
  clear hR h
  go_enter Try.func30, Try.ntmps30
  go_wp2_with (first
    | ((go_at_call 54; ((with_reducible refine (hc.out _ (hR'.out.below ((Below.refl _ _).alloc (Nat.le_refl _) _))).mono ?_); rintro e w1 ⟨rfl, hB1⟩)); have hO1 : Own w1 w.heap.size zcells 43 := (Own.new _ _ _).below hB1 (by simp); have b1 : Below w.heap.size w w1 := ((Below.refl _ _).alloc (Nat.le_refl _) _).trans (hB1.mono (by simp)))
    | (refine wpList_build_of rfl 43 #[] rfl zcells ?_ ?_; (exact built26nil))
    | (refine wpList_store_own rfl 43 _ _ rfl _ _ rfl rfl 43 _ (hO1) (row26 (d17 _ _ (zlen))) (rfl) (dcells_one _ _) ?_; intro w4 hO4 hN4))
  refine bodyPost_ret (v := .tuple #[.agg (zcells), .int .i64 2]) (results_row_tmp rfl _ _ _ _ _ (0, 0) _ rfl (hO4) Try.underlying43 rfl (row26 (d17 _ _ (zlen))) _ rfl) rfl (⟨rfl, b1.trans (hN4.below.mono (Nat.le_refl _))⟩)
set_option maxRecDepth 100000 in
theorem dopS_long (p : Option Addr) (cap : Nat) (xs : List Int) (w : World) (hR : Rd w p xs) (h : permB xs = true) (hs : ¬ ShortP xs) :
    Calls Try.prog 30 #[.slice p xs.length cap] w fun e w' => e = .returned (.tuple #[.agg zcells, .int .i64 5]) ∧ Below w.heap.size w w' := by
  have hR' := Lib.hid hR
  have h8 := permB_len h
  have hc := Lib.hid (fun w hR => permS_any p cap xs (by omega) w hR)
  rw [h] at hc
  have hq := Lib.hid (fun w1 hR1 => (shortS_any p cap xs h8 w1 hR1).mono fun e w' h => (show e = .returned (.bool false) ∧ Below w1.heap.size w1 w' from by
    obtain ⟨⟨b', h1, h2⟩, h3⟩ := h
    have : b' = false := by cases b' <;> simp_all
    exact ⟨by rw [h1, this], h3⟩))
  clear hR h
  go_enter Try.func30, Try.ntmps30
  go_wp2_with (first
    | ((go_at_call 54; ((with_reducible refine (hc.out _ (hR'.out.below ((Below.refl _ _).alloc (Nat.le_refl _) _))).mono ?_); rintro e w1 ⟨rfl, hB1⟩)); have hO1 : Own w1 w.heap.size zcells 43 := (Own.new _ _ _).below hB1 (by simp); have b1 : Below w.heap.size w w1 := ((Below.refl _ _).alloc (Nat.le_refl _) _).trans (hB1.mono (by simp)))
    | ((go_at_call 55; ((with_reducible refine (hq.out _ (hR'.out.below b1)).mono ?_); rintro e w2 ⟨rfl, hB2⟩)); have hO2 := hO1.below hB2 hO1.lt; have b2 := b1.trans (hB2.mono b1.size))
    | (refine wpList_build_of rfl 43 #[] rfl zcells ?_ ?_; (exact built26nil))
    | (refine wpList_store_own rfl 43 _ _ rfl _ _ rfl rfl 43 _ (hO2) (row26 (d17 _ _ (zlen))) (rfl) (dcells_one _ _) ?_; intro w4 hO4 hN4))
  refine bodyPost_ret (v := .tuple #[.agg (zcells), .int .i64 5]) (results_row_tmp rfl _ _ _ _ _ (0, 0) _ rfl (hO4) Try.underlying43 rfl (row26 (d17 _ _ (zlen))) _ rfl) rfl (⟨rfl, b2.trans (hN4.below.mono (Nat.le_refl _))⟩)
/-- What the model's loop keeps. -/
structure MidS (W E : List Nat) (m : Nat) (ys : List Int) (k f : Nat) : Prop where
  prm : Prm ys
  len : ys.length = m
  run : ∃ V, Run ys k V ∧ E ++ V = W
  le : k ≤ m
  fuel : 9 * (448 - phi 0 ys) + ((m : Int) - k) ≤ f
theorem MidS.up {W E : List Nat} {m : Nat} {ys : List Int} {k f : Nat} (h : MidS W E m ys k (f + 1)) (hk : k + 1 < m) (hl : ys.getD k 0 < ys.getD (k + 1) 0) : MidS W E m ys (k + 1) f := by
  obtain ⟨h1, h2, ⟨V, h3, h4⟩, h6, h7⟩ := h
  refine ⟨h1, h2, ⟨V, ?_, h4⟩, by omega, by omega⟩
  cases h3 with
  | done _ _ hn => exact absurd (by omega) hn
  | up _ _ _ _ _ hr => exact hr
  | down _ _ _ _ hn _ => exact absurd hl hn
theorem MidS.down {W E : List Nat} {m : Nat} {ys : List Int} {k f : Nat} (h : MidS W E m ys k (f + 1)) (hk : k + 1 < m) (hl : ¬ ys.getD k 0 < ys.getD (k + 1) 0) : MidS W (E ++ [k]) m (sw ys k) 0 f := by
  obtain ⟨h1, h2, ⟨V, h3, h4⟩, h6, h7⟩ := h
  have hp := sw_phi h1 (by omega) hl
  have h8 := h1.1
  cases h3 with
  | done _ _ hn => exact absurd (by omega) hn
  | up _ _ _ _ hn _ => exact absurd hn hl
  | down _ _ V _ _ hr => exact ⟨h1.sw (by omega), by rw [sw_len]; exact h2, ⟨V, hr, by rw [← h4]; simp⟩, by omega, by omega⟩
theorem MidS.done {W E : List Nat} {m : Nat} {ys : List Int} {k f : Nat} (h : MidS W E m ys k f) (hk : ¬ k + 1 < m) : E = W := by
  obtain ⟨h1, h2, ⟨V, h3, h4⟩, h6, h7⟩ := h
  cases h3 with
  | done _ _ hn => simpa using h4
  | up _ _ _ hn _ _ => exact absurd (by omega) hk
  | down _ _ _ hn _ _ => exact absurd (by omega) hk
theorem MidS.pre {W E : List Nat} {m : Nat} {ys : List Int} {k f : Nat} (h : MidS W E m ys k f) : E.length ≤ W.length := by
  obtain ⟨V, _, h4⟩ := h.run
  rw [← h4]; simp
theorem MidS.pos {W E : List Nat} {m : Nat} {ys : List Int} {k f : Nat} (h : MidS W E m ys k f) (hk : k + 1 < m) : ∃ f', f = f' + 1 := by
  have := phi_bd h.prm
  have := h.fuel
  exact ⟨f - 1, by omega⟩
theorem wordOf_snoc (E : List Nat) (k : Nat) : wordOf (E ++ [k]) = [(k : Int)] ++ wordOf E := by simp [wordOf]
theorem wordOf_len (E : List Nat) : (wordOf E).length = E.length := by simp [wordOf]
theorem Ints.one (w : World) (base n : Nat) (x : Int) (hb : base ≤ n) (hn : w.heap.size = n) : Ints (w.alloc (.cells #[.int .i64 x] 2)) base n 1 [x] := by
  subst hn
  exact ⟨hb, by simp, by decide, #[.int .i64 x], Own.new _ _ _, rfl, rfl⟩
set_option maxRecDepth 100000 in
set_option maxHeartbeats 1000000 in
theorem dopS_ok (p : Option Addr) (cap : Nat) (xs : List Int) (w : World) (hR : Rd w p xs) (h : permB xs = true) (hs : ShortP xs) (W : List Nat) (hW : Run xs 0 W) (hWl : W.length ≤ 448) (hWb : ∀ x ∈ wordOf W, 0 ≤ x ∧ x ≤ (xs.length : Int) - 2) :
    Calls Try.prog 30 #[.slice p xs.length cap] w fun e w' => e = .returned (.tuple #[.agg (dcells xs.length (valW xs.length (wordOf W)).1), .int .i64 0]) ∧ Below w.heap.size w w' := by
  have hR' := Lib.hid hR
  obtain ⟨hP, hp1⟩ := permB_prm h
  have h8 := hP.1
  have hc := Lib.hid (fun w hR => permS_any p cap xs (by omega) w hR)
  rw [h] at hc
  have hq := Lib.hid (fun w1 hR1 => (shortS_any p cap xs h8 w1 hR1).mono fun e w' h => (show e = .returned (.bool true) ∧ Below w1.heap.size w1 w' from by
    obtain ⟨⟨b', h1, h2⟩, h3⟩ := h
    have : b' = true := by cases b' <;> simp_all
    exact ⟨by rw [h1, this], h3⟩))
  obtain ⟨ad, rfl⟩ := rd_some hR hp1
  have hown := Lib.hid (fun w1 hR1 => ownS_any ad cap xs (by omega) w1 hR1)
  have hwl : (wordOf W).length ≤ 1000 := by simp [wordOf]; omega
  have hv := Lib.hid (fun q c w hR => valueS_any xs.length q c (wordOf W) w (by omega) (by omega) hwl hWb hR)
  rw [wordOf_len] at hv
  have hl := Lib.hid (valW_ok xs.length (wordOf W) (by omega) (by omega) hWb).1
  have hb := phi_bd hP
  obtain ⟨m, hm⟩ : ∃ m, xs.length = m := ⟨_, rfl⟩
  have hM0 := Lib.hid (show MidS W [] m xs 0 5000 from ⟨hP, hm, ⟨W, hW, rfl⟩, by omega, by omega⟩)
  have hM := Lib.hid hm
  rw [hm] at hc hq hown hv hl hp1 h8 ⊢
  generalize (valW m (wordOf W)).1 = ms at hv hl ⊢
  generalize (valW m (wordOf W)).2 = t at hv
  have hmk := mkE
  clear hR h hWb hW hs hP hm hb
  go_enter Try.func30, Try.ntmps30
  go_wp2_with (first
    | ((go_at_call 54; ((with_reducible refine (hc.out _ (hR'.out.below ((Below.refl _ _).alloc (Nat.le_refl _) _))).mono ?_); rintro e w1 ⟨rfl, hB1⟩)); have hO1 : Own w1 w.heap.size zcells 43 := (Own.new _ _ _).below hB1 (by simp); have b1 : Below w.heap.size w w1 := ((Below.refl _ _).alloc (Nat.le_refl _) _).trans (hB1.mono (by simp)))
    | ((go_at_call 55; ((with_reducible refine (hq.out _ (hR'.out.below b1)).mono ?_); rintro e w2 ⟨rfl, hB2⟩)); have hO2 := hO1.below hB2 hO1.lt; have b2 := b1.trans (hB2.mono b1.size))
    | ((go_at_call 56; ((with_reducible refine (hown.out _ (hR'.out.below b2)).mono ?_); rintro e w3 ⟨⟨g0, cap0, rfl, hI3⟩, hB3⟩)); have hO3 := hO2.below hB3 hO2.lt; have b3 := b2.trans (hB3.mono b2.size); have hg3 := hO2.lt))
  have hC := Lib.hid (show Ints (w3.alloc (.cells #[] 2)) (w.heap.size + 1) g0 cap0 xs from (hI3.alloc _).base (by have := hI3.1; omega))
  have hE := Lib.hid (show Ints (w3.alloc (.cells #[] 2)) w3.heap.size w3.heap.size 0 (wordOf []) from Ints.new _ _ _ _ (Nat.le_refl _) rfl (by decide) #[] rfl)
  have hO := Lib.hid (show Own (w3.alloc (.cells #[] 2)) w.heap.size zcells 43 from hO3.alloc _)
  have hB := Lib.hid (show Below w.heap.size w (w3.alloc (.cells #[] 2)) from b3.alloc b3.size _)
  have hg0 := hI3.lt
  have hg1 := hC.out.1
  have hsz := b3.size
  obtain ⟨bb, hbb⟩ : ∃ bb, w3.heap.size = bb := ⟨_, rfl⟩
  unfold ival
  rw [hbb] at hE hg0 hsz ⊢
  rw [hM.out]
  generalize w3.alloc (.cells #[] 2) = w4 at *
  clear hI3 hB1 hB2 hB3 hO1 hO2 hO3 b1 b2 b3 hg3 hbb hmk hc hq hown hM hR'
  go_loopg [6, 7] 5000 (fun f v i wr => ∃ (E : List Nat) (ys : List Int) (k g cap : Nat), v = .slice (some ⟨g, 0, none⟩) E.length cap ∧ i = .int .i64 k ∧ Hid (MidS W E m ys k f) ∧ Ints wr (w.heap.size + 1) g0 cap0 ys ∧ Ints wr bb g cap (wordOf E) ∧ Own wr w.heap.size zcells 43 ∧ Below w.heap.size w wr)
  case atStart => exact ⟨[], xs, 0, bb, 0, rfl, rfl, hM0, hC.out, hE.out, hO.out, hB.out⟩
  case round =>
    clear hC hE hB hO hM0
    obtain ⟨E, ys, k, g, cap, rfl, rfl, hD, hI, hJ, hO, hB⟩ := hrel
    have hyl := hD.out.len
    have hkm := hD.out.le
    have hge := hJ.1
    have hlt2 := hJ.lt
    by_cases hlt : k + 1 < m
    · obtain ⟨f', hf⟩ := hD.out.pos hlt
      subst hf
      have hpre := hD.out.pre
      have i1 : (k : Int) + 1 < (m : Int) := by omega
      have c1 := hI.cell k (by omega)
      have c2 := hI.cell (k + 1) (by omega)
      by_cases hl : ys.getD k 0 < ys.getD (k + 1) 0
      · have hD2 := Lib.hid (hD.out.up hlt hl)
        generalize ys.getD k 0 = x at *
        generalize ys.getD (k + 1) 0 = y at *
        have d1 : decide (x < y) = true := by simp [hl]
        clear hD hv
        go_wp2_with fail
        go_quiet (fail)
        go_wp2
        go_roundg f'
        case measure => omega
        case rel => exact ⟨E, ys, k + 1, g, cap, rfl, by go_num, hD2, hI.drewN _, hJ.drewN _, hO.drewN _, Below.drewN hB _⟩
      · have hD2 := Lib.hid (hD.out.down hlt hl)
        have hsw := Lib.hid (fun (wq : World) (hI : Ints wq (w.heap.size + 1) g0 cap0 ys) => show Ints ((wq.setCell ⟨g0, k, none⟩ (.int .i64 (ys.getD (k + 1) 0))).setCell ⟨g0, k + 1, none⟩ (.int .i64 (ys.getD k 0))) (w.heap.size + 1) g0 cap0 (sw ys k) from (hI.put _ _).put _ _)
        obtain ⟨x, hxx⟩ : ∃ x, ys.getD k 0 = x := ⟨_, rfl⟩
        obtain ⟨y, hyy⟩ : ∃ y, ys.getD (k + 1) 0 = y := ⟨_, rfl⟩
        have hXX := Lib.hid hxx
        have hYY := Lib.hid hyy
        rw [hxx] at hl c1 hsw
        rw [hyy] at hl c2 hsw
        clear hxx hyy
        have d1 : decide (x < y) = false := by simp; omega
        have hE100 : E.length < 1000 := by omega
        clear hD hv
        go_wp2_with fail
        go_quiet (fail)
        have hIq := Lib.hid (hI.drewN nq)
        have hJq := Lib.hid (hJ.drewN nq)
        have hOq := Lib.hid (hO.drewN nq)
        have hBq := Lib.hid (Below.drewN hB nq)
        generalize wr.drewN nq = wq at *
        clear hI hJ hO hB c1 c2 hlt2
        have c1 := hIq.out.cell k (by omega)
        have c2 := hIq.out.cell (k + 1) (by omega)
        rw [hXX.out] at c1
        rw [hYY.out] at c2
        have f1 := hIq.out.free k
        have f2 := hIq.out.free (k + 1)
        have c3 := (hIq.out.put k y).cell (k + 1) (by simp; omega)
        have hI6 := hsw.out wq hIq.out
        have hJ6 := (hJq.out.only (Only.set g0 k wq (.int .i64 y)) (by omega)).only (Only.set g0 (k + 1) _ (.int .i64 x)) (by omega)
        have hO6 := (hOq.out.only (Only.set g0 k wq (.int .i64 y)) (by omega)).only (Only.set g0 (k + 1) _ (.int .i64 x)) (by omega)
        have hB6 := (hBq.out.setCell (p := ⟨g0, k, none⟩) (by simp; omega) (.int .i64 y)).setCell (p := ⟨g0, k + 1, none⟩) (by simp; omega) (.int .i64 x)
        have KI := Lib.hid hI6
        have KJ := Lib.hid hJ6
        have KO := Lib.hid hO6
        have KB := Lib.hid hB6
        clear hI6 hJ6 hO6 hB6 hsw
        go_wp2_with (first
          | (refine wpList_append_ints_many rfl (.tmp 61) (.tmp 62) rfl bb _ 1 [(k : Int)] (wordOf E) rfl (Ints.one _ _ _ _ (by have := hJq.out.lt; omega) (by simp)) ⟨g, 0, none⟩ cap (by rw [wordOf_len]; rfl) ((KJ.out.alloc _).rd.cell _ rfl) (by rw [wordOf_len]; simp; omega) (by have := KJ.out.lt; simp at this ⊢; omega) ?_; intro g2 cap2 w5 hI5 hG5 hat; have hI7 : Ints w5 (w.heap.size + 1) g0 cap0 (sw ys k) := (KI.out.alloc _).grown hG5 (by have := hIq.out.lt; omega); have hO7 : Own w5 w.heap.size zcells 43 := (KO.out.alloc _).grown hG5 (by have := hOq.out.lt; omega); have hB7 : Below w.heap.size w w5 := (KB.out.alloc (by have := hBq.out.size; simp; omega) _).grown hG5 (by have := hBq.out.size; simp; omega) (fun k e => by have := hBq.out.size; simp at e; omega); have he : ival g2 cap2 ([(k : Int)] ++ wordOf E) = .slice (some ⟨g2, 0, none⟩) (E ++ [k]).length cap2 := (by rw [← wordOf_snoc]; unfold ival; rw [wordOf_len]); rw [he]; rw [← wordOf_snoc] at hI5))
        go_roundg f'
        case measure => omega
        case rel => exact ⟨E ++ [k], sw ys k, 0, g2, cap2, by simp, rfl, hD2, hI7, hI5, hO7, hB7⟩
    · have hd := hD.out.done hlt
      subst hd
      have i1 : ¬ (k : Int) + 1 < (m : Int) := by omega
      clear hD
      go_wp2_with (first
        | ((go_at_call 57; ((with_reducible refine (hv.out _ _ _ hJ.rd).mono ?_); rintro e w5 ⟨rfl, hB5⟩)); have hO5 := hO.below hB5 hO.lt; have b5 := hB.trans (hB5.mono hB.size))
        | ((refine wpList_store_own rfl 43 _ _ rfl _ _ rfl rfl 43 _ (Own.new w5 _ _) (row26 (d17 _ _ (hl.out))) (z_eq (d17 _ _ hl.out)) (dcells_one _ _) ?_; intro w6 hO6 hN6); have b6 := (b5.alloc b5.size _).trans (hN6.below.mono b5.size); have hO56 := (hO5.alloc _).only hN6 (Nat.ne_of_lt hO5.lt))
        | (refine wpList_load_row rfl 43 _ rfl _ rfl 43 _ (0, 0) _ (hO6) Try.underlying43 rfl (row26 (d17 _ _ (hl.out))) ?_)
        | (refine wpList_store_own rfl 43 _ _ rfl _ _ rfl rfl 43 _ (hO56) (row26 (d17 _ _ (hl.out))) (z_eq (d17 _ _ hl.out)) (dcells_one _ _) ?_; intro w7 hO7 hN7))
      refine bodyPost_ret (v := .tuple #[.agg (dcells m ms), .int .i64 0]) (results_row_tmp rfl _ _ _ _ _ (0, 0) _ rfl (hO7) Try.underlying43 rfl (row26 (d17 _ _ (hl.out))) _ rfl) rfl (⟨rfl, b6.trans (hN7.below.mono (Nat.le_refl _))⟩)
end Go.Proofs.Ytbikpagoeeelbaa
