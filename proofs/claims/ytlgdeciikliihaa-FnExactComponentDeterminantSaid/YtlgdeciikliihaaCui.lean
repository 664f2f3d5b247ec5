/- The program's curves. -/
import Derived.Test.YtlgdeciikliihaaIsy
import Derived.Test.YtlgdeciikliihaaIntsAt
import Derived.Test.YtlgdeciikliihaaJmp
namespace Go.Proofs.Ytlgdeciikliihaa
open Go.RowKit
set_option linter.unusedVariables false
set_option linter.unusedSimpArgs false
def nlN (l : List Nat) : List Int := l.map (fun y : Nat => (y : Int))
theorem nlN_app (a b : List Nat) : nlN (a ++ b) = nlN a ++ nlN b := by simp [nlN]
theorem nlN_len (l : List Nat) : (nlN l).length = l.length := by simp [nlN]
theorem nlN_get (l : List Nat) (k : Nat) (h : k < l.length) : (nlN l).getD k 0 = ((l.getD k 0 : Nat) : Int) := by simp [nlN, h]
theorem make0I (n : Nat) (hn : n ≤ 1048576) : ∀ w : World, (Instr.makeSlice 28 (.int .i64 0) (.int .i64 n)).run Try.prog w = .ok (.slice (some ⟨w.heap.size, 0, none⟩) 0 n) (w.alloc (.cells (icells (List.replicate n 0)) 2)) := by
  intro w
  obtain ⟨i0, hi0, hz0, hz1, hz2⟩ := info_parts info64
  have := run_make w 28 2 i0 (.int .i64 0) Try.underlying28 hi0 hz0 .i64 .i64 (0 : Int) (n : Int) (by omega) (by omega) (by rw [hz2]; omega) (by omega)
  rw [this, hz1]
  simp only [Int.toNat_natCast, Nat.mul_one]
  rw [← made64]
  rfl
/-- The arches of a system lie in a block. -/
def Arc (w : World) (b L : Nat) (o : List Int) : Prop := Own w b (icells (o.take L)) 2
theorem Arc.cell {w : World} {b L : Nat} {o : List Int} (h : Arc w b L o) (S : Sys L o) (j : Nat) (hj : j < L) : w.cell? ⟨b, j, none⟩ = some (.int .i64 ((mf o j : Nat) : Int)) := by
  rw [Own.cell h, icells_get _ _ (by rw [List.length_take, S.len]; have := S.top; omega), gtake _ _ _ hj, S.val j hj]
set_option maxRecDepth 100000 in
set_option maxHeartbeats 1000000 in
theorem cui_any (L : Nat) (oa ob : List Int) (ha : Sys L oa) (hb : Sys L ob) (ga gb s : Nat) (hs : s < L) (w : World) (hA : Arc w ga L oa) (hB : Arc w gb L ob) :
    Calls Try.prog 80 #[.slice (some ⟨ga, 0, none⟩) L L, .slice (some ⟨gb, 0, none⟩) L L, .int .i64 s] w fun e w' => ∃ g cap, e = .returned (ival g cap (nlN (curve (mf oa) (mf ob) s))) ∧ Ints w' w.heap.size g cap (nlN (curve (mf oa) (mf ob) s)) ∧ Below w.heap.size w w' := by
  have h12 := ha.top
  obtain ⟨K, hK, hc⟩ := curve_ret ha.mf hb.mf h12 hs
  have hC := Lib.hid hc
  have hRT := Lib.hid hK
  have HSA := Lib.hid ha
  have HSB := Lib.hid hb
  have hbd := Lib.hid (show ∀ k, k < K → 2 * (k + 1) ≤ L from fun k hk => rounds_lt ha.mf hb.mf hs (k + 1) (fun j h0 h1 => hK.first j h0 (by omega)))
  have hlt := Lib.hid (fun k => seqP_lt ha.mf hb.mf hs k)
  have hflt := Lib.hid (fun k => ha.mf.lt _ (seqP_lt ha.mf hb.mf hs k))
  have hmk := make0I L (by omega)
  have hga := Own.lt hA
  have hgb := Own.lt hB
  have HA := Lib.hid hA
  have HB := Lib.hid hB
  clear hK hc ha hb hA hB
  go_enter Try.func80, Try.ntmps80
  go_wp2
  refine wp_scope_jumpsG (fun l f a' w' => ∃ (k gg cap : Nat) (u9 u10 u11 u12 u13 u14 u15 u16 u17 u18 u19 u20 u21 u22 u23 u24 u25 u26 u27 u28 u29 u30 u31 u32 : Value), a' = { tmps := #[.slice (some ⟨ga, 0, none⟩) L L, .slice (some ⟨gb, 0, none⟩) L L, .int .i64 s, undef, undef, undef, .slice none 0 0, ival gg cap (nlN (walkL (mf oa) (mf ob) s k)), .int .i64 (seqP (mf oa) (mf ob) s k : Nat), u9, u10, u11, u12, u13, u14, u15, u16, u17, u18, u19, u20, u21, u22, u23, u24, u25, u26, u27, u28, u29, u30, u31, u32], defers := [] } ∧ l = 0 ∧ k < K ∧ f = K - k ∧ Ints w' w.heap.size gg cap (nlN (walkL (mf oa) (mf ob) s k)) ∧ Below w.heap.size w w') ?_ ?_
  · rintro l f a' wx ⟨k, gg, cap, u9, u10, u11, u12, u13, u14, u15, u16, u17, u18, u19, u20, u21, u22, u23, u24, u25, u26, u27, u28, u29, u30, u31, u32, rfl, rfl, hk, hf, hI, hBl⟩ Jh hJ
    refine ⟨_, rfl, ?_⟩
    have hlen := Lib.hid (show (nlN (walkL (mf oa) (mf ob) s k)).length = 2 * k by rw [nlN_len, walkL_len])
    have hb2 := hbd.out k hk
    have hp := hlt.out k
    have hq := hflt.out k
    have hst := Lib.hid (show nlN (walkL (mf oa) (mf ob) s (k + 1)) = nlN (walkL (mf oa) (mf ob) s k) ++ [((seqP (mf oa) (mf ob) s k : Nat) : Int), ((mf oa (seqP (mf oa) (mf ob) s k) : Nat) : Int)] by rw [walkL, nlN_app]; simp [nlN])
    have hnx := Lib.hid (show seqP (mf oa) (mf ob) s (k + 1) = mf ob (mf oa (seqP (mf oa) (mf ob) s k)) from rfl)
    obtain ⟨p, hpp⟩ : ∃ p, seqP (mf oa) (mf ob) s k = p := ⟨_, rfl⟩
    rw [hpp] at hp hq hst hnx ⊢
    obtain ⟨q, hqq⟩ : ∃ q, mf oa p = q := ⟨_, rfl⟩
    rw [hqq] at hq hst hnx
    have HQ := Lib.hid hqq
    obtain ⟨r, hrr⟩ : ∃ r, mf ob q = r := ⟨_, rfl⟩
    rw [hrr] at hnx
    have HR := Lib.hid hrr
    clear hpp hqq hrr
    have hsz := hBl.size
    go_wp2_with (first
      | (refine wpList_append_ints rfl (.tmp 13) (.tmp 15) rfl w.heap.size gg cap (nlN (walkL (mf oa) (mf ob) s k)) (p : Int) rfl (hI.alloc _) ⟨wx.heap.size, 0, none⟩ 1 rfl ((Own.new _ _ _).cell 0) (by rw [hlen.out]; omega) (by simp; omega) ?_; intro g2 cap2 w2 hI2 hG2; have hB2 : Below w.heap.size w w2 := (hBl.alloc hsz _).grown hG2 (by simp; omega) (fun k e => by have := hI.1; simp at e; omega); have cA := Arc.cell (Own.below HA.out hB2 hga) HSA.out p hp; rw [HQ.out] at cA; have hsz2 := hB2.size)
      | (refine wpList_append_ints rfl (.tmp 21) (.tmp 23) rfl w.heap.size g2 cap2 (nlN (walkL (mf oa) (mf ob) s k) ++ [(p : Int)]) (q : Int) (by rfl) (hI2.alloc _) ⟨w2.heap.size, 0, none⟩ 1 rfl ((Own.new _ _ _).cell 0) (by rw [List.length_append, hlen.out]; simp; omega) (by simp; omega) ?_; intro g3 cap3 w3 hI3 hG3; have hB3 : Below w.heap.size w w3 := (hB2.alloc hsz2 _).grown hG3 (by simp; omega) (fun k e => by have := hI2.1; simp at e; omega); have cB := Arc.cell (Own.below HB.out hB3 hgb) HSB.out q hq; rw [HR.out] at cB))
    · rename_i hne
      have hkK : k + 1 ≠ K := fun e => by
        have h1 := hRT.out.back
        rw [← e, hnx.out] at h1
        rw [h1] at hne
        simp at hne
      have hI4 : Ints w3 w.heap.size g3 cap3 (nlN (walkL (mf oa) (mf ob) s (k + 1))) := by rw [hst.out]; rw [List.append_assoc] at hI3; exact hI3
      go_step3
      show Jh 0 _ _
      refine hJ _ (K - (k + 1)) _ _ (by omega) ?_
      exact ⟨k + 1, g3, cap3, _, _, _, _, _, _, _, _, _, _, _, _, _, _, _, _, _, _, _, _, _, _, _, _, by rw [hst.out, hnx.out], rfl, by omega, rfl, hI4, hB3⟩
    · rename_i hne
      have hkK : k + 1 = K := by
        refine Decidable.byContradiction fun e => ?_
        have h1 := hRT.out.first (k + 1) (by omega) (by omega)
        rw [hnx.out] at h1
        simp at hne; omega
      have hI4 : Ints w3 w.heap.size g3 cap3 (nlN (curve (mf oa) (mf ob) s)) := by rw [hC.out, ← hkK, hst.out]; rw [List.append_assoc] at hI3; exact hI3
      rw [Exit.jumpG_ret]
      go_ret
      exact ⟨g3, cap3, by rw [hC.out, ← hkK, hst.out]; rfl, hI4, hB3⟩
  · intro hpass Jh hJ
    have hI0 : Ints (w.alloc (.cells (icells (List.replicate L 0)) 2)) w.heap.size w.heap.size L [] := Ints.new _ _ _ _ (Nat.le_refl _) rfl (by unfold maxLen; omega) _ (by rw [icells_size]; simp)
    have hB0 : Below w.heap.size w (w.alloc (.cells (icells (List.replicate L 0)) 2)) := (Below.refl _ _).alloc (Nat.le_refl _) _
    have hp := hRT.out.pos
    have hpass := Lib.hid hpass
    go_wp2
    go_step3
    go_step
    refine (by assumption : ∀ (a : Act) (w : World), Code.wp _ _ _ a w → _) _ _ ?_
    obtain ⟨X, hr, hw⟩ := hpass.out 0 K _ _ ⟨0, _, _, _, _, _, _, _, _, _, _, _, _, _, _, _, _, _, _, _, _, _, _, _, _, _, _, rfl, rfl, by omega, rfl, hI0, hB0⟩ Jh hJ
    have e2 := hr
    injection e2 with e2
    injection e2 with _ e2
    rw [← e2] at hw
    exact hw
end Go.Proofs.Ytlgdeciikliihaa
