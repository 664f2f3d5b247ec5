/- The text of arches, and whether it is theirs: the model's. -/
import Derived.Test.YtbpecjfiilkobaaIsy
import Derived.Test.YtbpecjfiilkobaaAtx
import Derived.BigQuiet
namespace Go.Proofs.Ytbpecjfiilkobaa
open Go.RowKit
set_option linter.unusedVariables false
set_option linter.unusedSimpArgs false
theorem bysConv {w : World} {base g cap n : Nat} {xs : List Int} (hI : Bys w base g cap xs) (hn : xs.length = n) :
    (convert 36 9 (.slice (some ⟨g, 0, none⟩) n cap)).run Try.prog w = .ok (.string (strOfNums xs)) w := by
  obtain ⟨_, _, _, cur, hcur, hcs, hct⟩ := hI
  exact run_convert_bytes_arg w 36 5 Try.underlying36 Try.underlying5 g 0 n cap xs hn
    (fun i hi => by
      rw [Nat.zero_add, hcur.cell]
      have e : (cur.toList.take xs.length)[i]? = (xs.map (Value.int .u8))[i]? := by rw [hct]
      rw [List.getElem?_take_of_lt (by rw [hn]; exact hi)] at e
      simpa [show i < xs.length by rw [hn]; exact hi] using e) 9 Try.underlying9
theorem MI_txt (xs : List Int) (k : Nat) (b : Int) (hb : (b = 40 ∧ (k : Int) < xs.getD k 0) ∨ (b = 41 ∧ ¬ (k : Int) < xs.getD k 0)) : MI (txt xs (k + 1)) = MI (txt xs k) ++ [b] := by
  rw [txt, MI_app]
  rcases hb with ⟨rfl, h⟩ | ⟨rfl, h⟩
  · rw [if_pos h]; rfl
  · rw [if_neg h]; rfl
theorem MI_strT (xs : List Int) (n : Nat) : strOfNums (MI (txt xs n)) = strT xs n := by rw [MI_str]; rfl
theorem take_eq_of {o xs : List Int} {n : Nat} (hx : xs.length = n) (ho : n ≤ o.length) (h : ∀ j, j < n → o.getD j 0 = xs.getD j 0) : o.take n = xs :=
  gext (by rw [List.length_take]; omega) fun j hj => by
    rw [List.length_take] at hj
    rw [gtake _ _ _ (by omega)]; exact h j (by omega)
set_option maxRecDepth 100000 in
set_option maxHeartbeats 1000000 in
theorem stx_any (xs : List Int) (n : Nat) (hn : xs.length = n) (h12 : n ≤ 12) (g cp : Nat) (w : World) (hO : Own w g (icells xs) 2) :
    Calls Try.prog 9 #[.slice (some ⟨g, 0, none⟩) n cp] w fun e w' => e = .returned (.tuple #[.string (strT xs n), .bool (!crossB xs)]) ∧ Below w.heap.size w w' := by
  have hL := Lib.hid hn
  have hmk := mk0b
  have hg := hO.lt
  have HO := Lib.hid hO
  have hsz : (strT xs n).size ≤ 1048576 := by rw [strT_size]; omega
  have hcr : (!crossB xs) = (match sarc (txt xs n) with | some o => decide (o.take n = xs) | none => false) := by
    unfold crossB; rw [hn]; cases sarc (txt xs n) <;> simp
  clear hn hO
  rw [hcr]
  obtain ⟨res, hres⟩ : ∃ r : Bool, (match sarc (txt xs n) with | some o => decide (o.take n = xs) | none => false) = r := ⟨_, rfl⟩
  rw [hres]
  clear hcr
  go_enter Try.func9, Try.ntmps9
  go_wp2
  have hIa : Bys (w.alloc (.cells #[] 5)) w.heap.size w.heap.size 0 (MI (txt xs 0)) := Bys.new _ _ _ _ (by simp) (by simp) (by decide) #[] rfl
  have hBa : Below w.heap.size w (w.alloc (.cells #[] 5)) := (Below.refl _ _).alloc (Nat.le_refl _) _
  clear hmk
  go_loopw [4, 5] (fun v i wr => ∃ (k : Nat) (b cap : Nat), k ≤ n ∧ i = .int .i64 k ∧ v = .slice (some ⟨b, 0, none⟩) k cap ∧ Bys wr w.heap.size b cap (MI (txt xs k)) ∧ Below w.heap.size w wr) (fun _ i _ => ((n : Int) - intOf i).toNat)
  case atStart => exact ⟨0, _, _, by omega, rfl, rfl, hIa, hBa⟩
  case round =>
    clear hIa hBa
    obtain ⟨k, b, cap, hk, rfl, rfl, hI, hB⟩ := hrel
    have hcl := Lib.hid (show (MI (txt xs k)).length = k by rw [MI_len, txt_len])
    have hs := hB.size
    by_cases hlt : k < n
    · have hltI : (k : Int) < (n : Int) := by omega
      have c1 := (HO.out.below hB hg).cell k
      rw [icells_get _ _ (by rw [hL.out]; exact hlt)] at c1
      obtain ⟨x, hx⟩ : ∃ x, xs.getD k 0 = x := ⟨_, rfl⟩
      rw [hx] at c1
      by_cases g0 : (k : Int) < x
      · have e1 := Lib.hid (MI_txt xs k 40 (.inl ⟨rfl, by rw [hx]; exact g0⟩))
        clear hx
        go_wp2_with (first
          | (refine wpList_append_bys rfl (.tmp 22) (.tmp 23) rfl w.heap.size b cap (MI (txt xs k)) 40 (by rw [bval, hcl.out]; rfl) (hI.alloc _) ⟨wr.heap.size, 0, none⟩ 1 rfl ((Own.new _ _ _).cell 0) (by rw [hcl.out]; omega) (by simp; omega) ?_; intro g2 cap2 w2 hI2 hG2))
        have hB2 : Below w.heap.size w w2 := (hB.alloc hs _).grown hG2 (by simp; omega) (fun k e => by have := hI.1; simp at e; omega)
        rw [← e1.out] at hI2
        clear hB hI hG2 c1
        go_wp2
        go_roundw
        case rel => exact ⟨k + 1, g2, cap2, by omega, by go_num, by simp [bval, hcl.out], hI2, hB2⟩
        case measure => simp [intOf]; omega
      · have e1 := Lib.hid (MI_txt xs k 41 (.inr ⟨rfl, by rw [hx]; exact g0⟩))
        clear hx
        go_wp2_with (first
          | (refine wpList_append_bys rfl (.tmp 25) (.tmp 26) rfl w.heap.size b cap (MI (txt xs k)) 41 (by rw [bval, hcl.out]; rfl) (hI.alloc _) ⟨wr.heap.size, 0, none⟩ 1 rfl ((Own.new _ _ _).cell 0) (by rw [hcl.out]; omega) (by simp; omega) ?_; intro g2 cap2 w2 hI2 hG2))
        have hB2 : Below w.heap.size w w2 := (hB.alloc hs _).grown hG2 (by simp; omega) (fun k e => by have := hI.1; simp at e; omega)
        rw [← e1.out] at hI2
        clear hB hI hG2 c1
        go_wp2
        go_roundw
        case rel => exact ⟨k + 1, g2, cap2, by omega, by go_num, by simp [bval, hcl.out], hI2, hB2⟩
        case measure => simp [intOf]; omega
    · have hk2 : k = n := by omega
      subst hk2
      have hcv := bysConv hI hcl.out
      rw [MI_strT] at hcv
      have hblt := hI.lt
      cases hsa : sarc (txt xs k) with
      | none =>
        have hr : res = false := by rw [← hres, hsa]
        subst hr
        have hc := Lib.hid (fun w => sar_none (strT xs k) w hsz (by rw [strT_list]; exact hsa))
        clear hres hsa
        go_wp2_with (first
          | (go_at_call 14; ((with_reducible refine (hc.out _).mono ?_); rintro e w2 ⟨o, ho, rfl, hB2⟩))
          | (refine wpList_store_own rfl 37 _ _ rfl _ _ rfl rfl 37 _ (Own.new w2 _ _) (row12i (i12s _ (ho))) (st12 ho) (one12i _) ?_; intro w3 hO3 hN3))
        have hB3 := (hB2.alloc hB2.size _).trans (hN3.below.mono hB2.size)
        have hBw : Below w.heap.size w w3 := hB.trans (hB3.mono hs)
        have hcv3 := bysConv (hI.below hB3 hblt) hcl.out
        rw [MI_strT] at hcv3
        clear hcv hO3 hN3
        go_loopw [7, 8] (fun v i wx => v = .bool false ∧ i = .int .i64 0 ∧ wx = w3) (fun _ _ _ => 0)
        case atStart => exact ⟨rfl, rfl, rfl⟩
        case round =>
          obtain ⟨rfl, rfl, rfl⟩ := hrel
          go_wp2
          all_goals
            go_ret2
            exact ⟨rfl, hBw⟩
      | some o =>
        have ho := Lib.hid (sarc_sys hsa).len
        have hr : decide (o.take k = xs) = res := by rw [← hres, hsa]
        have hR := Lib.hid hr
        have hc := Lib.hid (fun w => sar_some (strT xs k) w hsz o (by rw [strT_list]; exact hsa))
        clear hres hsa hr
        go_wp2_with (first
          | (go_at_call 14; ((with_reducible refine (hc.out _).mono ?_); rintro e w2 ⟨rfl, hB2⟩))
          | (refine wpList_store_own rfl 37 _ _ rfl _ _ rfl rfl 37 _ (Own.new w2 _ _) (row12i (i12s _ (ho.out))) (st12 ho.out) (one12i _) ?_; intro w3 hO3 hN3))
        have hB3 := (hB2.alloc hB2.size _).trans (hN3.below.mono hB2.size)
        have hBw : Below w.heap.size w w3 := hB.trans (hB3.mono hs)
        have hI3 := hI.below hB3 hblt
        obtain ⟨a, ha⟩ : ∃ a, w2.heap.size = a := ⟨_, rfl⟩
        rw [ha] at hO3
        rw [ha]
        clear hcv hN3 hB3 ha
        go_loopw [7, 8] (fun v i wx => ∃ (j : Nat) (t : Bool), j ≤ k ∧ v = .bool t ∧ i = .int .i64 j ∧ Hid (t = true → ∀ u, u < j → o.getD u 0 = xs.getD u 0) ∧ Hid (t = false → res = false) ∧ Own wx a (icells o) 37 ∧ Bys wx w.heap.size b cap (MI (txt xs k)) ∧ Below w.heap.size w wx) (fun _ i _ => ((k : Int) - intOf i).toNat)
        case atStart => exact ⟨0, true, by omega, rfl, rfl, Lib.hid (fun _ u hu => by omega), Lib.hid (fun h => by cases h), hO3, hI3, hBw⟩
        case round =>
          clear hO3 hI3 hBw hI hB
          obtain ⟨j, t, hj, rfl, rfl, hT, hF, hOx, hIx, hBx⟩ := hrel
          cases t with
          | false =>
            have hr := hF.out rfl
            subst hr
            have hcv3 := bysConv hIx hcl.out
            rw [MI_strT] at hcv3
            by_cases hjl : j < k
            · have j1 : (j : Int) < (k : Int) := by omega
              go_wp2
              go_ret2
              exact ⟨rfl, hBx⟩
            · have j1 : ¬ (j : Int) < (k : Int) := by omega
              go_wp2
              go_ret2
              exact ⟨rfl, hBx⟩
          | true =>
            by_cases hjl : j < k
            · have j1 : (j : Int) < (k : Int) := by omega
              have c1 := (HO.out.below hBx hg).cell j
              rw [icells_get _ _ (by rw [hL.out]; exact hjl)] at c1
              have c2 := hOx.cell j
              rw [icells_get _ _ (by rw [ho.out]; omega)] at c2
              have j12 : (j : Int) < 12 := by omega
              obtain ⟨t', ht'⟩ : ∃ t' : Bool, (o.getD j 0 == xs.getD j 0) = t' := ⟨_, rfl⟩
              have hT2 := Lib.hid (show t' = true → ∀ u, u < j + 1 → o.getD u 0 = xs.getD u 0 by
                intro ht u hu
                rw [ht] at ht'
                by_cases e : u = j
                · subst e; simpa using ht'
                · exact hT.out rfl u (by omega))
              have hF2 := Lib.hid (show t' = false → res = false by
                intro ht
                rw [ht] at ht'
                rw [← hR.out]
                simp only [decide_eq_false_iff_not]
                intro e
                have h1 : (o.take k).getD j 0 = xs.getD j 0 := by rw [e]
                rw [gtake _ _ _ hjl] at h1
                simp at ht'; exact ht' (by simpa using h1))
              obtain ⟨x, hx⟩ : ∃ x, xs.getD j 0 = x := ⟨_, rfl⟩
              obtain ⟨y, hy⟩ : ∃ y, o.getD j 0 = y := ⟨_, rfl⟩
              rw [hx] at c1 ht'
              rw [hy] at c2 ht'
              clear hx hy hT hF
              go_wp2
              go_quiet (fail)
              go_wp2
              go_roundw
              case rel => exact ⟨j + 1, t', by omega, rfl, by go_num, hT2, hF2, hOx.drewN _, hIx.drewN _, Below.drewN hBx _⟩
              case measure => simp [intOf]; omega
            · have hjk : j = k := by omega
              subst hjk
              have hr : res = true := by
                rw [← hR.out]
                simp only [decide_eq_true_iff]
                exact take_eq_of hL.out (by rw [ho.out]; exact h12) (hT.out rfl)
              subst hr
              have hcv3 := bysConv hIx hcl.out
              rw [MI_strT] at hcv3
              go_wp2
              go_ret2
              exact ⟨rfl, hBx⟩
end Go.Proofs.Ytbpecjfiilkobaa
