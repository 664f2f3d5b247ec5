/- The program's exchanges that lead to a permutation. -/
import Derived.Test.YtbikpagoeeelbaaSortR
import Derived.Deep.LoopGhost
namespace Go.Proofs.Ytbikpagoeeelbaa
open Go.RowKit
set_option linter.unusedVariables false
theorem Ints.grown {w w' : World} {base g g2 cap : Nat} {xs : List Int} (h : Ints w base g cap xs) (hg : w.grownBy w' (some g2)) (hb : g ≠ g2) : Ints w' base g cap xs := by
  obtain ⟨h1, h2, h3, cur, ho, hs, ht⟩ := h
  exact ⟨h1, h2, h3, cur, ho.grown hg hb, hs, ht⟩
/-- What the program's loop keeps. -/
structure Mid (W E : List Nat) (m : Nat) (ys : List Int) (k f : Nat) : Prop where
  prm : Prm ys
  len : ys.length = m
  run : ∃ V, Run ys k V ∧ E ++ V = W
  asc : Asc ys k
  lt : k < m
  fuel : 2 * (448 - phi 0 ys) + ((m : Int) - k) ≤ f
theorem Mid.up {W E : List Nat} {m : Nat} {ys : List Int} {k f : Nat} (h : Mid W E m ys k (f + 1)) (hk : k + 1 < m) (hl : ys.getD k 0 < ys.getD (k + 1) 0) : Mid W E m ys (k + 1) f := by
  obtain ⟨h1, h2, ⟨V, h3, h4⟩, h5, h6, h7⟩ := h
  refine ⟨h1, h2, ⟨V, ?_, h4⟩, h5.next hl, hk, by omega⟩
  cases h3 with
  | done _ _ hn => exact absurd (by omega) hn
  | up _ _ _ _ _ hr => exact hr
  | down _ _ _ _ hn _ => exact absurd hl hn
theorem Mid.down {W E : List Nat} {m : Nat} {ys : List Int} {k f : Nat} (h : Mid W E m ys k (f + 1)) (hk : k + 1 < m) (hl : ¬ ys.getD k 0 < ys.getD (k + 1) 0) : Mid W (E ++ [k]) m (sw ys k) (k - 1) f := by
  obtain ⟨h1, h2, ⟨V, h3, h4⟩, h5, h6, h7⟩ := h
  have hp := sw_phi h1 (by omega) hl
  have ha := sw_asc h5 (by omega)
  cases h3 with
  | done _ _ hn => exact absurd (by omega) hn
  | up _ _ _ _ hn _ => exact absurd hn hl
  | down _ _ V _ _ hr =>
    refine ⟨h1.sw (by omega), by rw [sw_len]; exact h2, ⟨V, hr.skip ha (by rw [sw_len]; omega), by rw [← h4]; simp⟩, ha, by omega, by omega⟩
theorem Mid.done {W E : List Nat} {m : Nat} {ys : List Int} {k f : Nat} (h : Mid W E m ys k f) (hk : ¬ k + 1 < m) : E = W := by
  obtain ⟨h1, h2, ⟨V, h3, h4⟩, h5, h6, h7⟩ := h
  cases h3 with
  | done _ _ hn => simpa using h4
  | up _ _ _ hn _ _ => exact absurd (by omega) hk
  | down _ _ _ hn _ _ => exact absurd (by omega) hk
theorem Mid.pre {W E : List Nat} {m : Nat} {ys : List Int} {k f : Nat} (h : Mid W E m ys k f) : E.length ≤ W.length := by
  obtain ⟨V, _, h4⟩ := h.run
  rw [← h4]; simp
theorem Mid.pos {W E : List Nat} {m : Nat} {ys : List Int} {k f : Nat} (h : Mid W E m ys k f) : ∃ f', f = f' + 1 := by
  have := phi_bd h.prm
  have := h.fuel
  have := h.lt
  exact ⟨f - 1, by omega⟩
def ofN (E : List Nat) : List Int := E.map Int.ofNat
theorem ofN_len (E : List Nat) : (ofN E).length = E.length := by simp [ofN]
theorem ofN_snoc (E : List Nat) (k : Nat) : ofN (E ++ [k]) = ofN E ++ [(k : Int)] := by simp [ofN]
theorem ofN_rev (E : List Nat) : (ofN E).reverse = wordOf E := by simp [ofN, wordOf]
set_option maxRecDepth 100000 in
set_option maxHeartbeats 1000000 in
theorem exTo_any (ad : Addr) (c : Nat) (xs : List Int) (W : List Nat) (hP : Prm xs) (h1 : 1 ≤ xs.length) (hW : Run xs 0 W) (hWl : W.length ≤ 448) (w : World) (hR : Rd w (some ad) xs) :
    Calls Try.prog 61 #[.slice (some ad) xs.length c] w fun e w' => (∃ g cap, e = .returned (ival g cap (wordOf W)) ∧ Ints w' w.heap.size g cap (wordOf W)) ∧ Below w.heap.size w w' := by
  have hmk := mkE
  have hcl := Lib.hid (cloneI_any ad c xs (by have := hP.1; omega) w hR)
  obtain ⟨m, hm⟩ : ∃ m, xs.length = m := ⟨_, rfl⟩
  have hPh := phi_bd hP
  have h8 := hP.1
  have hM0 := Lib.hid (show Mid W [] m xs 0 1000 from ⟨hP, hm, ⟨W, hW, rfl⟩, fun k hk => absurd hk (Nat.not_lt_zero _), by omega, by omega⟩)
  rw [hm] at h1 h8 hcl ⊢
  have hM := Lib.hid hm
  clear hR hm hP hW hPh
  go_enter Try.func61, Try.ntmps61
  go_wp2_with (first
    | (go_at_call 77; ((with_reducible refine (hcl.out).mono ?_); rintro e w1 ⟨⟨g0, cap0, rfl, hI1⟩, hB1⟩)))
  have hC := Lib.hid (show Ints (w1.alloc (.cells #[] 2)) w.heap.size g0 cap0 xs from hI1.alloc _)
  have hE := Lib.hid (show Ints (w1.alloc (.cells #[] 2)) w1.heap.size w1.heap.size 0 (ofN []) from Ints.new _ _ _ _ (Nat.le_refl _) rfl (by decide) #[] rfl)
  have hB := Lib.hid (show Below w.heap.size w (w1.alloc (.cells #[] 2)) from hB1.alloc hB1.size _)
  have hg0 := hI1.lt
  have hg1 := hI1.1
  have hsz := hB1.size
  have hL1 : w1.heap.size ≤ (w1.alloc (.cells #[] 2)).heap.size := by simp
  obtain ⟨b1, hb1⟩ : ∃ b1, w1.heap.size = b1 := ⟨_, rfl⟩
  rw [hb1] at hE hg0 hsz hL1 ⊢
  generalize w1.alloc (.cells #[] 2) = w2 at *
  clear hI1 hB1 hcl hb1 hmk
  have hEx := Lib.hid (fun (ys : List Int) (k : Nat) (wr : World) (hy : ys.length = m) (hk : k + 1 < m) (hI : Ints wr w.heap.size g0 cap0 ys) => show Calls Try.prog 78 #[.slice (some ⟨g0, 0, none⟩) m cap0, .int .i64 k] wr fun e w' => e = .returned (.tuple #[]) ∧ Ints w' w.heap.size g0 cap0 (sw ys k) ∧ Only g0 wr w' from by
    have := exNext_any w.heap.size g0 cap0 ys k (by omega) (by omega) wr hI
    unfold ival at this
    rwa [hy] at this)
  unfold ival
  rw [hM.out]
  clear hM
  go_wp2
  go_loopg [4, 5] 1000 (fun f v i wr => ∃ (E : List Nat) (ys : List Int) (k g cap : Nat), v = .slice (some ⟨g, 0, none⟩) E.length cap ∧ i = .int .i64 k ∧ Hid (Mid W E m ys k f) ∧ Ints wr w.heap.size g0 cap0 ys ∧ Ints wr b1 g cap (ofN E) ∧ Below w.heap.size w wr)
  case atStart => exact ⟨[], xs, 0, b1, 0, rfl, rfl, hM0, hC.out, hE.out, hB.out⟩
  case round =>
    clear hC hE hB hL1 hM0
    obtain ⟨E, ys, k, g, cap, rfl, rfl, hD, hI, hJ, hB⟩ := hrel
    have hyl := hD.out.len
    have hge := hJ.1
    have hlt2 := hJ.lt
    by_cases hlt : k + 1 < m
    · obtain ⟨f', hf⟩ := hD.out.pos
      subst hf
      have hpre := hD.out.pre
      have i1 : (k : Int) < (m : Int) - 1 := by omega
      have c1 := hI.cell k (by omega)
      have c2 := hI.cell (k + 1) (by omega)
      by_cases hl : ys.getD k 0 < ys.getD (k + 1) 0
      · have hD2 := Lib.hid (hD.out.up hlt hl)
        generalize ys.getD k 0 = x at *
        generalize ys.getD (k + 1) 0 = y at *
        have d1 : decide (x < y) = true := by simp [hl]
        clear hD hEx
        go_wp2_with fail
        go_quiet (fail)
        go_wp2
        go_roundg f'
        case measure => omega
        case rel => exact ⟨E, ys, k + 1, g, cap, rfl, by go_num, hD2, hI.drewN _, hJ.drewN _, Below.drewN hB _⟩
      · have hD2 := Lib.hid (hD.out.down hlt hl)
        have hX := Lib.hid (fun n => hEx.out ys k (wr.drewN n) hyl hlt (hI.drewN n))
        generalize ys.getD k 0 = x at *
        generalize ys.getD (k + 1) 0 = y at *
        have d1 : decide (x < y) = false := by simp; omega
        have hE100 : E.length < 1000 := by omega
        clear hD hEx
        go_wp2_with fail
        go_quiet (fail)
        go_wp2_with (first
          | (go_at_call 78; ((with_reducible refine (hX.out _).mono ?_); rintro e w3 ⟨rfl, hI3, hN3⟩; have hJ3 : Ints w3 b1 g cap (ofN E) := (hJ.drewN _).only hN3 (by omega); have hB3 : Below w.heap.size w w3 := (Below.drewN hB _).trans (hN3.below.mono (by omega)); have hs3 := hJ3.lt))
          | (refine wpList_append_ints_at rfl (.tmp 29) (.tmp 31) rfl b1 g cap (ofN E) k (by unfold ival; rw [ofN_len]; rfl) (hJ3.alloc _) ⟨w3.heap.size, 0, none⟩ 1 rfl ((Own.new _ _ _).cell 0) (by rw [ofN_len]; omega) (by simp; omega) ?_; intro g2 cap2 w5 hI5 hG5 hat; have hI6 : Ints w5 w.heap.size g0 cap0 (sw ys k) := (hI3.alloc _).grown hG5 (by omega); have hB6 : Below w.heap.size w w5 := (hB3.alloc (by omega) _).grown hG5 (by simp; omega) (fun k e => by simp at e; omega); have he : ival g2 cap2 (ofN E ++ [(k : Int)]) = .slice (some ⟨g2, 0, none⟩) (E ++ [k]).length cap2 := (by rw [← ofN_snoc]; unfold ival; rw [ofN_len]); rw [he]; rw [← ofN_snoc] at hI5))
        · go_roundg f'
          case measure => omega
          case rel => exact ⟨E ++ [k], sw ys k, k - 1, g2, cap2, by simp, by (congr 1 <;> omega), hD2, hI6, hI5, hB6⟩
        · go_roundg f'
          case measure => omega
          case rel => exact ⟨E ++ [k], sw ys k, k - 1, g2, cap2, by simp, by (congr 1 <;> omega), hD2, hI6, hI5, hB6⟩
    · have hd := hD.out.done hlt
      subst hd
      have i1 : ¬ (k : Int) < (m : Int) - 1 := by omega
      have hV := Lib.hid (show Calls Try.prog 79 #[.slice (some ⟨g, 0, none⟩) E.length cap] wr fun e w' => e = .returned (.tuple #[]) ∧ Ints w' w.heap.size g cap (wordOf E) ∧ Below w.heap.size wr w' from by
        have := reverse_any b1 g cap (ofN E) (by rw [ofN_len]; omega) wr hJ
        unfold ival at this
        rw [ofN_len, ofN_rev] at this
        exact this.mono fun e w' h => ⟨h.1, h.2.1.base (by omega), h.2.2.below.mono (by omega)⟩)
      have hl := Lib.hid (show E.length = (wordOf E).length by simp [wordOf])
      clear hD
      go_wp2_with (first
        | (go_at_call 79; ((with_reducible refine (hV.out).mono ?_); rintro e w3 ⟨rfl, hI3, hB3⟩)))
      go_ret
      exact ⟨⟨g, cap, by unfold ival; rw [← hl.out]; rfl, hI3⟩, hB.trans hB3⟩
end Go.Proofs.Ytbikpagoeeelbaa
