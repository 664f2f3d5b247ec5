/- AllDiagrams, and the law. -/
import Derived.Test.YtpjlienelkflhaaAll
import Derived.Test.YtpjlienelkflhaaMkd
namespace Go.Proofs.Ytpjlienelkflhaa
open Go.RowKit Go.Lib
set_option linter.unusedVariables false
set_option linter.unusedSimpArgs false
def AdPost (n : Nat) (w : World) (e : Ending) (w' : World) : Prop := ∃ v', e = .returned (.tuple #[v', .int .i64 0]) ∧ RowD w' w.heap.size v' (allD n) ∧ Below w.heap.size w w'
theorem adI_ok (n : Nat) (h1 : 1 ≤ n) (h6 : n ≤ 6) (w : World) : Calls Try.prog 9 #[.int .i64 n] w (AdPost n w) := by
  have hld := Lib.hid (fun w => ldI_any n h1 (by omega) w)
  unfold LdPost at hld
  unfold AdPost
  obtain ⟨ds, hds⟩ : ∃ ds, allD n = ds := ⟨_, rfl⟩
  rw [hds] at hld ⊢
  clear hds
  go_enter Try.func9, Try.ntmps9
  go_wp2_with (first
    | (go_at_call 28; ((with_reducible refine (hld.out _).mono ?_); rintro e w1 ⟨v1, rfl, hR1, hB1⟩)))
  go_ret2
  exact ⟨_, rfl, hR1, hB1⟩
theorem adS_ok (n : Nat) (h1 : 1 ≤ n) (h6 : n ≤ 6) (w : World) : Calls Try.prog 8 #[.int .i64 n] w (AdPost n w) := by
  have hld := Lib.hid (fun w => ldS_any n h1 (by omega) w)
  unfold LdPost at hld
  unfold AdPost
  obtain ⟨ds, hds⟩ : ∃ ds, allD n = ds := ⟨_, rfl⟩
  rw [hds] at hld ⊢
  clear hds
  go_enter Try.func8, Try.ntmps8
  go_wp2_with (first
    | (go_at_call 26; ((with_reducible refine (inS_t _ _ _ _ (by omega) (by omega)).mono ?_); rintro e w0 ⟨rfl, rfl⟩))
    | (go_at_call 27; ((with_reducible refine (hld.out _).mono ?_); rintro e w1 ⟨v1, rfl, hR1, hB1⟩)))
  go_ret2
  exact ⟨_, rfl, hR1, hB1⟩
theorem adI_bad (n : Int) (h : n < 1 ∨ 6 < n) (w : World) : Calls Try.prog 9 #[.int .i64 n] w fun e w' => e = .returned (.tuple #[.slice none 0 0, .int .i64 2]) ∧ Below w.heap.size w w' := by
  rcases h with h | h
  · go_enter Try.func9, Try.ntmps9
    go_wp2
    go_ret2
    exact ⟨rfl, Below.refl _ _⟩
  · have h1 : ¬ n < 1 := by omega
    go_enter Try.func9, Try.ntmps9
    go_wp2
    go_ret2
    exact ⟨rfl, Below.refl _ _⟩
theorem adS_bad (n : Int) (h : n < 1 ∨ 6 < n) (w : World) : Calls Try.prog 8 #[.int .i64 n] w fun e w' => e = .returned (.tuple #[.slice none 0 0, .int .i64 2]) ∧ Below w.heap.size w w' := by
  have hh := Lib.hid h
  clear h
  go_enter Try.func8, Try.ntmps8
  go_wp2_with (first
    | (go_at_call 26; ((with_reducible refine (inS_f _ _ _ _ hh.out).mono ?_); rintro e w0 ⟨rfl, rfl⟩)))
  go_ret2
  exact ⟨rfl, Below.refl _ _⟩
theorem RowD.zero {w : World} {base : Nat} {v : Value} {ds : List DgR} (h : RowD w base v ds) : RowD w 0 v ds := h.base (Nat.zero_le _)
set_option maxRecDepth 100000 in
set_option maxHeartbeats 1000000 in
theorem ad_ok (n : Nat) (h1 : 1 ≤ n) (h6 : n ≤ 6) (w : World) :
    Calls Try.prog 3 #[.int .i64 n] w fun e w' => e = .returned (.bool true) ∧ Below w.heap.size w w' := by
  have hS := Lib.hid (fun w => adS_ok n h1 h6 w)
  have hI := Lib.hid (fun w => adI_ok n h1 h6 w)
  have h16 := Lib.hid (allD_16 n)
  have hpos := Lib.hid (allD_pos n h1 (by omega))
  have hlen : (allD n).length ≤ 100000 := by have := allD_len n h1 (by omega); omega
  unfold AdPost at hS hI
  obtain ⟨ds, hds⟩ : ∃ ds, allD n = ds := ⟨_, rfl⟩
  rw [hds] at hS hI h16 hpos hlen
  have he := Lib.hid (fun w g1 c1 g2 c2 => eqDs_same w w.heap.size g1 c1 g2 c2 ds h16.out hlen rfl)
  have hm := Lib.hid (fun w g cap (hc : ds.length ≤ cap) => markDs_any w g ds.length cap hlen hc)
  have hh := Lib.hid (fun w g cap S => heldDs_any w g ds.length cap S hlen)
  have q0 : (0 : Int) ≤ (ds.length : Int) * 17 + 1 := by omega
  have q1 : ¬ ((ds.length : Int) * 17 + 1 < 0) := by omega
  clear hds
  go_enter Try.func3, Try.ntmps3
  go_wp2_with (first
    | (go_at_call 8; ((with_reducible refine (hS.out _).mono ?_); rintro e w1 ⟨v1, rfl, hR1, hB1⟩); obtain ⟨g1, c1, rfl, hg1, hl1⟩ := hR1.at h16.out hpos.out)
    | (go_at_call 9; ((with_reducible refine (hI.out w1).mono ?_); rintro e w2 ⟨v2, rfl, hR2, hB2⟩); have hR12 := hR1.below hB2 (Nat.le_refl _); obtain ⟨g2, c2, rfl, hg2, hl2⟩ := hR2.at h16.out hpos.out; have b2 := hB1.trans (hB2.mono hB1.size))
    | (go_at_call 10; ((with_reducible refine (he.out w2 _ _ _ _ hR2.zero hR12.zero).mono ?_); rintro e w3 ⟨rfl, hB3⟩); have hR23 := hR2.below hB3 (Nat.le_refl _); have hR13 := hR12.below hB3 (Nat.le_refl _); have b3 := b2.trans (hB3.mono b2.size); obtain ⟨nM, nC⟩ := hR23.mkd)
    | (go_at_call 11; ((with_reducible refine (hm.out w3 _ _ nC nM).mono ?_); rintro e w4 ⟨rfl, hM4, hO4⟩); have hR14 : RowD w4 w.heap.size (.slice (some ⟨g1, 0, none⟩) ds.length c1) ds := hR13.kept (fun g e => hO4.other g (fun he => by have e' : some g1 = some g := e; injection e' with e'; omega)); have b4 : Below w.heap.size w w4 := b3.trans (hO4.below.mono (Nat.le_trans hB1.size hg2)))
    | (go_at_call 12; ((with_reducible refine (hh.out w4 _ _ _ hM4).mono ?_); rintro e w5 ⟨rfl, rfl⟩))
    | (go_at_call 9; ((with_reducible refine (hI.out w5).mono ?_); rintro e w6 ⟨v6, rfl, hR6, hB6⟩); have hR16 := hR14.below hB6 (Nat.le_refl _); have hM6 := hM4.below hB6 (by have := hO4.size; have := hB3.size; omega); obtain ⟨g6, c6, rfl, hg6, hl6⟩ := hR6.at h16.out hpos.out; have b6 := b4.trans (hB6.mono b4.size))
    | (go_at_call 10; ((with_reducible refine (he.out w6 _ _ _ _ hR6.zero hR16.zero).mono ?_); rintro e w7 ⟨rfl, hB7⟩); have hM7 := hM6.below hB7 (by have := hO4.size; have := hB3.size; have := hB6.size; omega); have b7 := b6.trans (hB7.mono b6.size))
    | (go_at_call 12; ((with_reducible refine (hh.out w7 _ _ _ hM7).mono ?_); rintro e w8 ⟨rfl, rfl⟩)))
  go_ret
  exact ⟨rfl, b7⟩
set_option maxRecDepth 100000 in
set_option maxHeartbeats 1000000 in
theorem ad_law (n : Int) (w : World) :
    Calls Try.prog 3 #[.int .i64 n] w fun e w' => e = .returned (.bool true) ∧ Below w.heap.size w w' := by
  by_cases h : 1 ≤ n ∧ n ≤ 6
  · obtain ⟨h1, h2⟩ := h
    obtain ⟨N, rfl⟩ : ∃ N : Nat, n = N := ⟨n.toNat, by omega⟩
    exact ad_ok N (by omega) (by omega) w
  · have hb : n < 1 ∨ 6 < n := by omega
    have hS := Lib.hid (fun w => adS_bad n hb w)
    have hI := Lib.hid (fun w => adI_bad n hb w)
    clear h hb
    go_enter Try.func3, Try.ntmps3
    go_wp2_with (first
      | (go_at_call 8; ((with_reducible refine (hS.out _).mono ?_); rintro e w1 ⟨rfl, hB1⟩))
      | (go_at_call 9; ((with_reducible refine (hI.out w1).mono ?_); rintro e w2 ⟨rfl, hB2⟩); have b2 := hB1.trans (hB2.mono hB1.size))
      | (go_at_call 10; ((with_reducible refine (eqDs_nil w2).mono ?_); rintro e w3 ⟨rfl, hB3⟩); have b3 := b2.trans (hB3.mono b2.size))
      | (go_at_call 11; ((with_reducible refine (markDs_nil w3).mono ?_); rintro e w4 ⟨rfl, rfl⟩))
      | (go_at_call 12; ((with_reducible refine (heldDs_nil w4).mono ?_); rintro e w5 ⟨rfl, rfl⟩))
      | (go_at_call 9; ((with_reducible refine (hI.out w5).mono ?_); rintro e w6 ⟨rfl, hB6⟩); have b6 := b3.trans (hB6.mono b3.size))
      | (go_at_call 10; ((with_reducible refine (eqDs_nil w6).mono ?_); rintro e w7 ⟨rfl, hB7⟩); have b7 := b6.trans (hB7.mono b6.size))
      | (go_at_call 12; ((with_reducible refine (heldDs_nil w7).mono ?_); rintro e w8 ⟨rfl, rfl⟩)))
    go_ret
    exact ⟨rfl, b7⟩
end Go.Proofs.Ytpjlienelkflhaa
