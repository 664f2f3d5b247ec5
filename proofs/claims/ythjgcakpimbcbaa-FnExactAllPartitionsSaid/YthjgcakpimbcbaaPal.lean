/- AllPartitions, and the law. -/
import Derived.Test.YthjgcakpimbcbaaPaf
import Derived.Test.YthjgcakpimbcbaaMkp
import Derived.Test.YthjgcakpimbcbaaImplA
namespace Go.Proofs.Ythjgcakpimbcbaa
open Go.RowKit Go.Lib
set_option linter.unusedVariables false
set_option linter.unusedSimpArgs false
/-- All partitions of a size, in order. -/
def allP (n : Nat) : List PtR := prw n (pf (2 * n) 0 0 zer8)
theorem pf_8 (f : Nat) : ∀ (k nx : Nat) (ms : List Int), ms.length = 8 → ∀ x ∈ pf f k nx ms, x.length = 8 := by
  induction f with
  | zero => intro k nx ms h x hx; simp [pf] at hx; subst hx; exact h
  | succ f ih =>
    intro k nx ms h x hx
    rw [pf, List.mem_flatMap] at hx
    obtain ⟨p, _, hp⟩ := hx
    exact ih _ _ _ (by rw [List.length_set]; exact h) x hp
theorem allP_16 (n : Nat) : LP8 (allP n) := by
  intro d hd
  unfold allP prw at hd
  rw [List.mem_map] at hd
  obtain ⟨x, hx, rfl⟩ := hd
  exact pf_8 _ _ _ _ zlen8 x hx
theorem allP_len (n : Nat) (h1 : 1 ≤ n) (h4 : n ≤ 4) : (allP n).length ≤ 4140 := by
  unfold allP
  rw [prw_len, pf_len]
  have h : n = 1 ∨ n = 2 ∨ n = 3 ∨ n = 4 := by omega
  rcases h with rfl | rfl | rfl | rfl <;> decide +kernel
theorem allP_pos (n : Nat) (h1 : 1 ≤ n) (h4 : n ≤ 4) : 0 < (allP n).length := by
  unfold allP
  rw [prw_len, pf_len]
  have h : n = 1 ∨ n = 2 ∨ n = 3 ∨ n = 4 := by omega
  rcases h with rfl | rfl | rfl | rfl <;> decide +kernel
def LpPost (n : Nat) (w : World) (e : Ending) (w' : World) : Prop := ∃ v', e = .returned v' ∧ RowQ w' w.heap.size v' (allP n) ∧ Below w.heap.size w w'
set_option maxRecDepth 100000 in
theorem lpI_any (n : Nat) (h1 : 1 ≤ n) (h4 : n ≤ 4) (w : World) : Calls Try.prog 17 #[.int .i64 n] w (LpPost n w) := by
  have hc : cP (2 * n) 0 ≤ 4140 := by
    have := allP_len n h1 h4
    unfold allP at this
    rwa [prw_len, pf_len] at this
  have hf := Lib.hid (show Calls Try.prog 23 #[.slice none 0 0, .agg (dcells n zer8), .int .i64 0, .int .u8 0] w (PafPost w.heap.size (.slice none 0 0) [] n (pf (2 * n) 0 0 zer8) w) from fillI_any n h1 h4 (2 * n) 0 0 w.heap.size zer8 (.slice none 0 0) [] w (by omega) (Nat.le_refl _) zlen8 (RowQ.nil _ _) (Nat.le_refl _) (by simp; omega))
  have hpost := Lib.hid (show ∀ e w', PafPost w.heap.size (.slice none 0 0) [] n (pf (2 * n) 0 0 zer8) w e w' → LpPost n w e w' from fun e w' ⟨v', he, hR, _, hB⟩ => ⟨v', he, by simpa [allP] using hR, hB⟩)
  have hb := builtP1 (n : Int)
  clear hc
  go_enter Try.func17, Try.ntmps17
  go_wp2_with (first
    | (refine wpList_build_of rfl 38 #[(0, .tmp 3)] rfl (dcells n zer8) ?_ ?_; (exact hb))
    | (go_at_call 23; ((with_reducible refine (hf.out).mono ?_); rintro e w1 h1; obtain ⟨v1, he, hR1, hB1⟩ := hpost.out _ _ h1; subst he)))
  go_ret
  exact ⟨_, rfl, hR1, hB1⟩
set_option maxRecDepth 100000 in
theorem lpS_any (n : Nat) (h1 : 1 ≤ n) (h4 : n ≤ 4) (w : World) : Calls Try.prog 16 #[.int .i64 n] w (LpPost n w) := by
  have hc : cP (2 * n) 0 ≤ 4140 := by
    have := allP_len n h1 h4
    unfold allP at this
    rwa [prw_len, pf_len] at this
  have hf := Lib.hid (show Calls Try.prog 22 #[.slice none 0 0, .agg (dcells n zer8), .int .i64 0, .int .u8 0] w (PafPost w.heap.size (.slice none 0 0) [] n (pf (2 * n) 0 0 zer8) w) from fillS_any n h1 h4 (2 * n) 0 0 w.heap.size zer8 (.slice none 0 0) [] w (by omega) (Nat.le_refl _) zlen8 (RowQ.nil _ _) (Nat.le_refl _) (by simp; omega))
  have hpost := Lib.hid (show ∀ e w', PafPost w.heap.size (.slice none 0 0) [] n (pf (2 * n) 0 0 zer8) w e w' → LpPost n w e w' from fun e w' ⟨v', he, hR, _, hB⟩ => ⟨v', he, by simpa [allP] using hR, hB⟩)
  have hb := builtP1 (n : Int)
  clear hc
  go_enter Try.func16, Try.ntmps16
  go_wp2_with (first
    | (refine wpList_build_of rfl 38 #[(0, .tmp 3)] rfl (dcells n zer8) ?_ ?_; (exact hb))
    | (go_at_call 22; ((with_reducible refine (hf.out).mono ?_); rintro e w1 h1; obtain ⟨v1, he, hR1, hB1⟩ := hpost.out _ _ h1; subst he)))
  go_ret
  exact ⟨_, rfl, hR1, hB1⟩
def ApPost (n : Nat) (w : World) (e : Ending) (w' : World) : Prop := ∃ v', e = .returned (.tuple #[v', .int .i64 0]) ∧ RowQ w' w.heap.size v' (allP n) ∧ Below w.heap.size w w'
theorem apI_ok (n : Nat) (h1 : 1 ≤ n) (h3 : n ≤ 3) (w : World) : Calls Try.prog 6 #[.int .i64 n] w (ApPost n w) := by
  have hld := Lib.hid (fun w => lpI_any n h1 (by omega) w)
  unfold LpPost at hld
  unfold ApPost
  obtain ⟨ds, hds⟩ : ∃ ds, allP n = ds := ⟨_, rfl⟩
  rw [hds] at hld ⊢
  clear hds
  go_enter Try.func6, Try.ntmps6
  go_wp2_with (first
    | (go_at_call 17; ((with_reducible refine (hld.out _).mono ?_); rintro e w1 ⟨v1, rfl, hR1, hB1⟩)))
  go_ret2
  exact ⟨_, rfl, hR1, hB1⟩
theorem apS_ok (n : Nat) (h1 : 1 ≤ n) (h3 : n ≤ 3) (w : World) : Calls Try.prog 5 #[.int .i64 n] w (ApPost n w) := by
  have hld := Lib.hid (fun w => lpS_any n h1 (by omega) w)
  unfold LpPost at hld
  unfold ApPost
  obtain ⟨ds, hds⟩ : ∃ ds, allP n = ds := ⟨_, rfl⟩
  rw [hds] at hld ⊢
  clear hds
  go_enter Try.func5, Try.ntmps5
  go_wp2_with (first
    | (go_at_call 15; ((with_reducible refine (inS_t _ _ _ _ (by omega) (by omega)).mono ?_); rintro e w0 ⟨rfl, rfl⟩))
    | (go_at_call 16; ((with_reducible refine (hld.out _).mono ?_); rintro e w1 ⟨v1, rfl, hR1, hB1⟩)))
  go_ret2
  exact ⟨_, rfl, hR1, hB1⟩
theorem apI_bad (n : Int) (h : n < 1 ∨ 3 < n) (w : World) : Calls Try.prog 6 #[.int .i64 n] w fun e w' => e = .returned (.tuple #[.slice none 0 0, .int .i64 2]) ∧ Below w.heap.size w w' := by
  rcases h with h | h
  · go_enter Try.func6, Try.ntmps6
    go_wp2
    go_ret2
    exact ⟨rfl, Below.refl _ _⟩
  · have h1 : ¬ n < 1 := by omega
    go_enter Try.func6, Try.ntmps6
    go_wp2
    go_ret2
    exact ⟨rfl, Below.refl _ _⟩
theorem apS_bad (n : Int) (h : n < 1 ∨ 3 < n) (w : World) : Calls Try.prog 5 #[.int .i64 n] w fun e w' => e = .returned (.tuple #[.slice none 0 0, .int .i64 2]) ∧ Below w.heap.size w w' := by
  have hh := Lib.hid h
  clear h
  go_enter Try.func5, Try.ntmps5
  go_wp2_with (first
    | (go_at_call 15; ((with_reducible refine (inS_f _ _ _ _ hh.out).mono ?_); rintro e w0 ⟨rfl, rfl⟩)))
  go_ret2
  exact ⟨rfl, Below.refl _ _⟩
theorem RowQ.zero {w : World} {base : Nat} {v : Value} {ds : List PtR} (h : RowQ w base v ds) : RowQ w 0 v ds := h.base (Nat.zero_le _)
set_option maxRecDepth 100000 in
set_option maxHeartbeats 1000000 in
theorem ap_ok (n : Nat) (h1 : 1 ≤ n) (h3 : n ≤ 3) (w : World) :
    Calls Try.prog 3 #[.int .i64 n] w fun e w' => e = .returned (.bool true) ∧ Below w.heap.size w w' := by
  have hS := Lib.hid (fun w => apS_ok n h1 h3 w)
  have hI := Lib.hid (fun w => apI_ok n h1 h3 w)
  have h16 := Lib.hid (allP_16 n)
  have hpos := Lib.hid (allP_pos n h1 (by omega))
  have hlen : (allP n).length ≤ 100000 := by have := allP_len n h1 (by omega); omega
  unfold ApPost at hS hI
  obtain ⟨ds, hds⟩ : ∃ ds, allP n = ds := ⟨_, rfl⟩
  rw [hds] at hS hI h16 hpos hlen
  have he := Lib.hid (fun w g1 c1 g2 c2 => eqPs_same w w.heap.size g1 c1 g2 c2 ds h16.out hlen rfl)
  have hm := Lib.hid (fun w g cap (hc : ds.length ≤ cap) => markPs_any w g ds.length cap hlen hc)
  have hh := Lib.hid (fun w g cap S => heldPs_any w g ds.length cap S hlen)
  have q0 : (0 : Int) ≤ (ds.length : Int) * 9 + 1 := by omega
  have q1 : ¬ ((ds.length : Int) * 9 + 1 < 0) := by omega
  clear hds
  go_enter Try.func3, Try.ntmps3
  go_wp2_with (first
    | (go_at_call 5; ((with_reducible refine (hS.out _).mono ?_); rintro e w1 ⟨v1, rfl, hR1, hB1⟩); obtain ⟨g1, c1, rfl, hg1, hl1⟩ := hR1.at h16.out hpos.out)
    | (go_at_call 6; ((with_reducible refine (hI.out w1).mono ?_); rintro e w2 ⟨v2, rfl, hR2, hB2⟩); have hR12 := hR1.below hB2 (Nat.le_refl _); obtain ⟨g2, c2, rfl, hg2, hl2⟩ := hR2.at h16.out hpos.out; have b2 := hB1.trans (hB2.mono hB1.size))
    | (go_at_call 7; ((with_reducible refine (he.out w2 _ _ _ _ hR2.zero hR12.zero).mono ?_); rintro e w3 ⟨rfl, hB3⟩); have hR23 := hR2.below hB3 (Nat.le_refl _); have hR13 := hR12.below hB3 (Nat.le_refl _); have b3 := b2.trans (hB3.mono b2.size); obtain ⟨nM, nC⟩ := hR23.mkp)
    | (go_at_call 8; ((with_reducible refine (hm.out w3 _ _ nC nM).mono ?_); rintro e w4 ⟨rfl, hM4, hO4⟩); have hR14 : RowQ w4 w.heap.size (.slice (some ⟨g1, 0, none⟩) ds.length c1) ds := hR13.kept (fun g e => hO4.other g (fun he => by have e' : some g1 = some g := e; injection e' with e'; omega)); have b4 : Below w.heap.size w w4 := b3.trans (hO4.below.mono (Nat.le_trans hB1.size hg2)))
    | (go_at_call 9; ((with_reducible refine (hh.out w4 _ _ _ hM4).mono ?_); rintro e w5 ⟨rfl, rfl⟩))
    | (go_at_call 6; ((with_reducible refine (hI.out w5).mono ?_); rintro e w6 ⟨v6, rfl, hR6, hB6⟩); have hR16 := hR14.below hB6 (Nat.le_refl _); have hM6 := hM4.below hB6 (by have := hO4.size; have := hB3.size; omega); obtain ⟨g6, c6, rfl, hg6, hl6⟩ := hR6.at h16.out hpos.out; have b6 := b4.trans (hB6.mono b4.size))
    | (go_at_call 7; ((with_reducible refine (he.out w6 _ _ _ _ hR6.zero hR16.zero).mono ?_); rintro e w7 ⟨rfl, hB7⟩); have hM7 := hM6.below hB7 (by have := hO4.size; have := hB3.size; have := hB6.size; omega); have b7 := b6.trans (hB7.mono b6.size))
    | (go_at_call 9; ((with_reducible refine (hh.out w7 _ _ _ hM7).mono ?_); rintro e w8 ⟨rfl, rfl⟩)))
  go_ret
  exact ⟨rfl, b7⟩
set_option maxRecDepth 100000 in
set_option maxHeartbeats 1000000 in
theorem ap_law (n : Int) (w : World) :
    Calls Try.prog 3 #[.int .i64 n] w fun e w' => e = .returned (.bool true) ∧ Below w.heap.size w w' := by
  by_cases h : 1 ≤ n ∧ n ≤ 3
  · obtain ⟨h1, h2⟩ := h
    obtain ⟨N, rfl⟩ : ∃ N : Nat, n = N := ⟨n.toNat, by omega⟩
    exact ap_ok N (by omega) (by omega) w
  · have hb : n < 1 ∨ 3 < n := by omega
    have hS := Lib.hid (fun w => apS_bad n hb w)
    have hI := Lib.hid (fun w => apI_bad n hb w)
    clear h hb
    go_enter Try.func3, Try.ntmps3
    go_wp2_with (first
      | (go_at_call 5; ((with_reducible refine (hS.out _).mono ?_); rintro e w1 ⟨rfl, hB1⟩))
      | (go_at_call 6; ((with_reducible refine (hI.out w1).mono ?_); rintro e w2 ⟨rfl, hB2⟩); have b2 := hB1.trans (hB2.mono hB1.size))
      | (go_at_call 7; ((with_reducible refine (eqPs_nil w2).mono ?_); rintro e w3 ⟨rfl, hB3⟩); have b3 := b2.trans (hB3.mono b2.size))
      | (go_at_call 8; ((with_reducible refine (markPs_nil w3).mono ?_); rintro e w4 ⟨rfl, rfl⟩))
      | (go_at_call 9; ((with_reducible refine (heldPs_nil w4).mono ?_); rintro e w5 ⟨rfl, rfl⟩))
      | (go_at_call 6; ((with_reducible refine (hI.out w5).mono ?_); rintro e w6 ⟨rfl, hB6⟩); have b6 := b3.trans (hB6.mono b3.size))
      | (go_at_call 7; ((with_reducible refine (eqPs_nil w6).mono ?_); rintro e w7 ⟨rfl, hB7⟩); have b7 := b6.trans (hB7.mono b6.size))
      | (go_at_call 9; ((with_reducible refine (heldPs_nil w7).mono ?_); rintro e w8 ⟨rfl, rfl⟩)))
    go_ret
    exact ⟨rfl, b7⟩
end Go.Proofs.Ythjgcakpimbcbaa
