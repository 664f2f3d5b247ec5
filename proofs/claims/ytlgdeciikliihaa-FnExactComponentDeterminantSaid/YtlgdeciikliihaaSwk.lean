/- The model's curves. -/
import Derived.Test.YtlgdeciikliihaaCui
import Derived.Deep.LoopGhost
namespace Go.Proofs.Ytlgdeciikliihaa
open Go.RowKit
set_option linter.unusedVariables false
set_option linter.unusedSimpArgs false
/-- The twelve mates of a system in a block. -/
theorem own_mf {w : World} {b : Nat} {o : List Int} {L : Nat} {t : TypeId} (h : Own w b (icells o) t) (S : Sys L o) (j : Nat) (hj : j < L) : w.cell? ⟨b, j, none⟩ = some (.int .i64 ((mf o j : Nat) : Int)) := by
  rw [h.cell, icells_get _ _ (by rw [S.len]; have := S.top; omega), S.val j hj]
set_option maxRecDepth 100000 in
set_option maxHeartbeats 1000000 in
theorem swk_any (L : Nat) (oa ob : List Int) (ha : Sys L oa) (hb : Sys L ob) (s : Nat) (hs : s < L) (w : World) :
    Calls Try.prog 77 #[.agg (icells oa), .agg (icells ob), .int .i64 s] w fun e w' => ∃ g cap, e = .returned (ival g cap (nlN (curve (mf oa) (mf ob) s))) ∧ Ints w' w.heap.size g cap (nlN (curve (mf oa) (mf ob) s)) ∧ Below w.heap.size w w' := by
  have h12 := ha.top
  obtain ⟨K, hK, hc⟩ := curve_ret ha.mf hb.mf h12 hs
  have hC := Lib.hid hc
  have hRT := Lib.hid hK
  have HSA := Lib.hid ha
  have HSB := Lib.hid hb
  have hbd := Lib.hid (show ∀ k, k < K → 2 * (k + 1) ≤ L from fun k hk => rounds_lt ha.mf hb.mf hs (k + 1) (fun j h0 h1 => hK.first j h0 (by omega)))
  have hlt := Lib.hid (fun k => seqP_lt ha.mf hb.mf hs k)
  have hflt := Lib.hid (fun k => ha.mf.lt _ (seqP_lt ha.mf hb.mf hs k))
  have hpar := Lib.hid (show ∀ k, mf oa (seqP (mf oa) (mf ob) s k) ≠ s from fun k e => by
    have p1 := seqP_par ha.mf hb.mf hs k
    have p2 := ha.mf.par _ (seqP_lt ha.mf hb.mf hs k)
    omega)
  have hl1 := Lib.hid ha.len
  have hl2 := Lib.hid hb.len
  have c0 : (icells oa)[s]? = some (.int .i64 ((mf oa s : Nat) : Int)) := by rw [icells_get _ _ (by rw [ha.len]; omega), ha.val s hs]
  clear hK hc ha hb
  go_enter Try.func77, Try.ntmps77
  go_wp2
  have hA0 : Own (((w.alloc (.cells (icells oa) 116)).alloc (.cells (icells ob) 116)).alloc (.cells #[Value.int .i64 (s : Int)] 2)) w.heap.size (icells oa) 116 := ((Own.new w _ _).alloc _).alloc _
  have hB0 : Own (((w.alloc (.cells (icells oa) 116)).alloc (.cells (icells ob) 116)).alloc (.cells #[Value.int .i64 (s : Int)] 2)) (w.heap.size + 1) (icells ob) 116 := (Own.at _ _ _ (by simp)).alloc _
  have hI0 : Ints (((w.alloc (.cells (icells oa) 116)).alloc (.cells (icells ob) 116)).alloc (.cells #[Value.int .i64 (s : Int)] 2)) (w.heap.size + 1 + 1) (w.heap.size + 1 + 1) 1 [(s : Int)] := ⟨Nat.le_refl _, Nat.le_refl _, by unfold maxLen; omega, _, Own.at _ _ _ (by simp), rfl, rfl⟩
  have hW0 : Below w.heap.size w (((w.alloc (.cells (icells oa) 116)).alloc (.cells (icells ob) 116)).alloc (.cells #[Value.int .i64 (s : Int)] 2)) := (((Below.refl _ _).alloc (Nat.le_refl _) _).alloc (by simp) _).alloc (by simp; omega) _
  clear c0
  generalize (((w.alloc (.cells (icells oa) 116)).alloc (.cells (icells ob) 116)).alloc (.cells #[Value.int .i64 (s : Int)] 2)) = wa at *
  have hp0 := hRT.out.pos
  go_loopg [7, 8, 9] (2 * K) (fun f v at_ up wr => ∃ (k : Nat) (t : Bool) (g cap : Nat), k < K ∧ up = .bool t ∧ Hid (2 * (K - k) ≤ f + (if t then 1 else 0)) ∧ v = ival g cap (nlN (if t then walkL (mf oa) (mf ob) s (k + 1) else walkL (mf oa) (mf ob) s k ++ [seqP (mf oa) (mf ob) s k])) ∧ at_ = .int .i64 (if t then seqP (mf oa) (mf ob) s (k + 1) else mf oa (seqP (mf oa) (mf ob) s k) : Nat) ∧ Ints wr (w.heap.size + 1 + 1) g cap (nlN (if t then walkL (mf oa) (mf ob) s (k + 1) else walkL (mf oa) (mf ob) s k ++ [seqP (mf oa) (mf ob) s k])) ∧ Own wr w.heap.size (icells oa) 116 ∧ Own wr (w.heap.size + 1) (icells ob) 116 ∧ Below w.heap.size w wr)
  case atStart => exact ⟨0, false, w.heap.size + 1 + 1, 1, hp0, rfl, Lib.hid (by simp), rfl, rfl, hI0, hA0, hB0, hW0⟩
  case round =>
    clear hI0 hA0 hB0 hW0
    obtain ⟨k, t, g, cap, hk, rfl, hf, rfl, rfl, hI, hA, hB, hW⟩ := hrel
    have hb2 := hbd.out k hk
    have hp := hlt.out k
    have hq := hflt.out k
    have hr := hlt.out (k + 1)
    have hsz := hB.lt
    cases t with
    | false =>
      simp only [Bool.false_eq_true, ↓reduceIte] at hI hf ⊢
      have hlen := Lib.hid (show (nlN (walkL (mf oa) (mf ob) s k ++ [seqP (mf oa) (mf ob) s k])).length = 2 * k + 1 by rw [nlN_len, List.length_append, walkL_len]; rfl)
      have hst := Lib.hid (show nlN (walkL (mf oa) (mf ob) s (k + 1)) = nlN (walkL (mf oa) (mf ob) s k ++ [seqP (mf oa) (mf ob) s k]) ++ [((mf oa (seqP (mf oa) (mf ob) s k) : Nat) : Int)] by rw [walkL, nlN_app, nlN_app]; simp [nlN])
      have hnx := Lib.hid (show seqP (mf oa) (mf ob) s (k + 1) = mf ob (mf oa (seqP (mf oa) (mf ob) s k)) from rfl)
      have hnes := hpar.out k
      obtain ⟨q, hqq⟩ : ∃ q, mf oa (seqP (mf oa) (mf ob) s k) = q := ⟨_, rfl⟩
      rw [hqq] at hq hst hnx hnes ⊢
      have hne : ((q : Int) != (s : Int)) = true := by simp; omega
      obtain ⟨xs, hxs⟩ : ∃ xs, nlN (walkL (mf oa) (mf ob) s k ++ [seqP (mf oa) (mf ob) s k]) = xs := ⟨_, rfl⟩
      rw [hxs] at hI hlen hst ⊢
      have hq12 : q < 12 := by omega
      clear hqq hxs hnes
      go_wp2_with (first
        | (refine wpList_append_ints rfl (.tmp 20) (.tmp 22) rfl (w.heap.size + 1 + 1) g cap xs (q : Int) rfl (hI.alloc _) ⟨wr.heap.size, 0, none⟩ 1 rfl ((Own.new _ _ _).cell 0) (by rw [hlen.out]; omega) (by simp; omega) ?_; intro g2 cap2 w2 hI2 hG2; have hA2 := (hA.alloc (.cells #[Value.int .i64 (q : Int)] 2)).grown hG2 (by have := hI.1; omega); have hB2 := (hB.alloc (.cells #[Value.int .i64 (q : Int)] 2)).grown hG2 (by have := hI.1; omega); have cB := own_mf hB2 HSB.out q hq; rw [← hnx.out] at cB))
      have hW2 : Below w.heap.size w w2 := (hW.alloc (by omega) _).grown hG2 (by simp; omega) (fun k e => by have := hI.1; simp at e; omega)
      obtain ⟨f', hff⟩ : ∃ f', gk = f' + 1 := ⟨gk - 1, by have := hf.out; omega⟩
      subst hff
      rw [← hst.out] at hI2
      go_roundg f'
      case measure => omega
      case rel => exact ⟨k, true, g2, cap2, hk, rfl, Lib.hid (by have := hf.out; simp; omega), by rw [if_pos rfl, hst.out], rfl, hI2, hA2, hB2, hW2⟩
    | true =>
      simp only [↓reduceIte] at hI hf ⊢
      have hlen := Lib.hid (show (nlN (walkL (mf oa) (mf ob) s (k + 1))).length = 2 * k + 2 by rw [nlN_len, walkL_len]; omega)
      by_cases hkK : k + 1 = K
      · have e : seqP (mf oa) (mf ob) s (k + 1) = s := by rw [hkK]; exact hRT.out.back
        have hR := Lib.hid (show nlN (walkL (mf oa) (mf ob) s (k + 1)) = nlN (curve (mf oa) (mf ob) s) by rw [hC.out, hkK])
        rw [e, hR.out]
        rw [hR.out] at hI
        have hI' : Ints wr w.heap.size g cap (nlN (curve (mf oa) (mf ob) s)) := ⟨by have := hI.1; omega, hI.2⟩
        clear hI
        go_wp2
        go_ret
        exact ⟨g, cap, rfl, hI', hW⟩
      · have hnes := hRT.out.first (k + 1) (by omega) (by omega)
        have hst := Lib.hid (show nlN (walkL (mf oa) (mf ob) s (k + 1) ++ [seqP (mf oa) (mf ob) s (k + 1)]) = nlN (walkL (mf oa) (mf ob) s (k + 1)) ++ [((seqP (mf oa) (mf ob) s (k + 1) : Nat) : Int)] by rw [nlN_app]; rfl)
        obtain ⟨q, hqq⟩ : ∃ q, seqP (mf oa) (mf ob) s (k + 1) = q := ⟨_, rfl⟩
        rw [hqq] at hr hst hnes ⊢
        have hne : ((q : Int) != (s : Int)) = true := by simp; omega
        obtain ⟨xs, hxs⟩ : ∃ xs, nlN (walkL (mf oa) (mf ob) s (k + 1)) = xs := ⟨_, rfl⟩
        rw [hxs] at hI hlen hst ⊢
        have hq12 : q < 12 := by omega
        have HQ := Lib.hid hqq
        have HX := Lib.hid hxs
        clear hqq hxs hnes
        go_wp2_with (first
          | (refine wpList_append_ints rfl (.tmp 20) (.tmp 22) rfl (w.heap.size + 1 + 1) g cap xs (q : Int) rfl (hI.alloc _) ⟨wr.heap.size, 0, none⟩ 1 rfl ((Own.new _ _ _).cell 0) (by rw [hlen.out]; omega) (by simp; omega) ?_; intro g2 cap2 w2 hI2 hG2; have hA2 := (hA.alloc (.cells #[Value.int .i64 (q : Int)] 2)).grown hG2 (by have := hI.1; omega); have hB2 := (hB.alloc (.cells #[Value.int .i64 (q : Int)] 2)).grown hG2 (by have := hI.1; omega); have cA := own_mf hA2 HSA.out q hr))
        have hW2 : Below w.heap.size w w2 := (hW.alloc (by omega) _).grown hG2 (by simp; omega) (fun k e => by have := hI.1; simp at e; omega)
        obtain ⟨f', hff⟩ : ∃ f', gk = f' + 1 := ⟨gk - 1, by have := hf.out; omega⟩
        subst hff
        rw [← hst.out] at hI2
        go_roundg f'
        case measure => omega
        case rel => exact ⟨k + 1, false, g2, cap2, by omega, rfl, Lib.hid (by have := hf.out; simp; omega), by rw [if_neg (by simp), HQ.out, hst.out], by rw [if_neg (by simp), HQ.out], by rw [if_neg (by simp), HQ.out]; exact hI2, hA2, hB2, hW2⟩
end Go.Proofs.Ytlgdeciikliihaa
