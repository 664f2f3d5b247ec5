/- The law of AllBlobbed. -/
import Derived.Test.YtpjlienelkflhaaAbs
import Derived.Test.YtpjlienelkflhaaMkb
namespace Go.Proofs.Ytpjlienelkflhaa
open Go.RowKit Go.Lib
set_option linter.unusedVariables false
set_option linter.unusedSimpArgs false
theorem bls_pos (n : Nat) (h1 : 1 ≤ n) (h4 : n ≤ 4) : 0 < (bls (allD n)).length := by
  have hp := allD_pos n h1 (by omega)
  obtain ⟨d, ds, hd⟩ : ∃ d ds, allD n = d :: ds := by
    cases hh : allD n with
    | nil => rw [hh] at hp; simp at hp
    | cons d ds => exact ⟨d, ds, rfl⟩
  rw [hd]
  show 0 < (rws d.1 d.2 (fl d.2 (opl d.1 d.2) zbs) ++ bls ds).length
  rw [List.length_append]
  have : 0 < (rws d.1 d.2 (fl d.2 (opl d.1 d.2) zbs)).length := by unfold rws; rw [List.length_map, fl_len]; exact Nat.pow_pos (by omega)
  omega
theorem RowL.zero {w : World} {base : Nat} {v : Value} {ds : List BlR} (h : RowL w base v ds) : RowL w 0 v ds := h.base (Nat.zero_le _)
set_option maxRecDepth 100000 in
set_option maxHeartbeats 1000000 in
theorem abl_ok (n : Nat) (h1 : 1 ≤ n) (h6 : n ≤ 4) (w : World) :
    Calls Try.prog 7 #[.int .i64 n] w fun e w' => e = .returned (.bool true) ∧ Below w.heap.size w w' := by
  have hS := Lib.hid (fun w => ablS_ok n h1 h6 w)
  have hI := Lib.hid (fun w => ablI_ok n h1 h6 w)
  have h16 := Lib.hid (bls_16 (allD n) (allD_16 n))
  have hpos := Lib.hid (bls_pos n h1 h6)
  have hlen : (bls (allD n)).length ≤ 2000000 := by
    have a := bls_len n h1 (by omega) (allD n).length (Nat.le_refl _)
    rw [List.take_length] at a
    have b := allD_14 n h1 h6
    omega
  unfold AblPost at hS hI
  obtain ⟨ds, hds⟩ : ∃ ds, bls (allD n) = ds := ⟨_, rfl⟩
  rw [hds] at hS hI h16 hpos hlen
  have he := Lib.hid (fun w g1 c1 g2 c2 => eqBs_same w w.heap.size g1 c1 g2 c2 ds h16.out hlen rfl)
  have hm := Lib.hid (fun w g cap (hc : ds.length ≤ cap) => markBs_any w g ds.length cap hlen hc)
  have hh := Lib.hid (fun w g cap S => heldBs_any w g ds.length cap S hlen)
  have q0 : (0 : Int) ≤ (ds.length : Int) * 33 + 1 := by omega
  have q1 : ¬ ((ds.length : Int) * 33 + 1 < 0) := by omega
  clear hds
  go_enter Try.func7, Try.ntmps7
  go_wp2_with (first
    | (go_at_call 21; ((with_reducible refine (hS.out _).mono ?_); rintro e w1 ⟨v1, rfl, hR1, hB1⟩); obtain ⟨g1, c1, rfl, hg1, hl1⟩ := hR1.at h16.out hpos.out)
    | (go_at_call 22; ((with_reducible refine (hI.out w1).mono ?_); rintro e w2 ⟨v2, rfl, hR2, hB2⟩); have hR12 := hR1.below hB2 (Nat.le_refl _); obtain ⟨g2, c2, rfl, hg2, hl2⟩ := hR2.at h16.out hpos.out; have b2 := hB1.trans (hB2.mono hB1.size))
    | (go_at_call 23; ((with_reducible refine (he.out w2 _ _ _ _ hR2.zero hR12.zero).mono ?_); rintro e w3 ⟨rfl, hB3⟩); have hR23 := hR2.below hB3 (Nat.le_refl _); have hR13 := hR12.below hB3 (Nat.le_refl _); have b3 := b2.trans (hB3.mono b2.size); obtain ⟨nM, nC⟩ := hR23.mkb)
    | (go_at_call 24; ((with_reducible refine (hm.out w3 _ _ nC nM).mono ?_); rintro e w4 ⟨rfl, hM4, hO4⟩); have hR14 : RowL w4 w.heap.size (.slice (some ⟨g1, 0, none⟩) ds.length c1) ds := hR13.kept (fun g e => hO4.other g (fun he => by have e' : some g1 = some g := e; injection e' with e'; omega)); have b4 : Below w.heap.size w w4 := b3.trans (hO4.below.mono (Nat.le_trans hB1.size hg2)))
    | (go_at_call 25; ((with_reducible refine (hh.out w4 _ _ _ hM4).mono ?_); rintro e w5 ⟨rfl, rfl⟩))
    | (go_at_call 22; ((with_reducible refine (hI.out w5).mono ?_); rintro e w6 ⟨v6, rfl, hR6, hB6⟩); have hR16 := hR14.below hB6 (Nat.le_refl _); have hM6 := hM4.below hB6 (by have := hO4.size; have := hB3.size; omega); obtain ⟨g6, c6, rfl, hg6, hl6⟩ := hR6.at h16.out hpos.out; have b6 := b4.trans (hB6.mono b4.size))
    | (go_at_call 23; ((with_reducible refine (he.out w6 _ _ _ _ hR6.zero hR16.zero).mono ?_); rintro e w7 ⟨rfl, hB7⟩); have hM7 := hM6.below hB7 (by have := hO4.size; have := hB3.size; have := hB6.size; omega); have b7 := b6.trans (hB7.mono b6.size))
    | (go_at_call 25; ((with_reducible refine (hh.out w7 _ _ _ hM7).mono ?_); rintro e w8 ⟨rfl, rfl⟩)))
  go_ret
  exact ⟨rfl, b7⟩
set_option maxRecDepth 100000 in
set_option maxHeartbeats 1000000 in
theorem abl_law (n : Int) (w : World) :
    Calls Try.prog 7 #[.int .i64 n] w fun e w' => e = .returned (.bool true) ∧ Below w.heap.size w w' := by
  by_cases h : 1 ≤ n ∧ n ≤ 4
  · obtain ⟨h1, h2⟩ := h
    obtain ⟨N, rfl⟩ : ∃ N : Nat, n = N := ⟨n.toNat, by omega⟩
    exact abl_ok N (by omega) (by omega) w
  · have hb : n < 1 ∨ 4 < n := by omega
    have hS := Lib.hid (fun w => ablS_bad n hb w)
    have hI := Lib.hid (fun w => ablI_bad n hb w)
    clear h hb
    go_enter Try.func7, Try.ntmps7
    go_wp2_with (first
      | (go_at_call 21; ((with_reducible refine (hS.out _).mono ?_); rintro e w1 ⟨rfl, hB1⟩))
      | (go_at_call 22; ((with_reducible refine (hI.out w1).mono ?_); rintro e w2 ⟨rfl, hB2⟩); have b2 := hB1.trans (hB2.mono hB1.size))
      | (go_at_call 23; ((with_reducible refine (eqBs_nil w2).mono ?_); rintro e w3 ⟨rfl, hB3⟩); have b3 := b2.trans (hB3.mono b2.size))
      | (go_at_call 24; ((with_reducible refine (markBs_nil w3).mono ?_); rintro e w4 ⟨rfl, rfl⟩))
      | (go_at_call 25; ((with_reducible refine (heldBs_nil w4).mono ?_); rintro e w5 ⟨rfl, rfl⟩))
      | (go_at_call 22; ((with_reducible refine (hI.out w5).mono ?_); rintro e w6 ⟨rfl, hB6⟩); have b6 := b3.trans (hB6.mono b3.size))
      | (go_at_call 23; ((with_reducible refine (eqBs_nil w6).mono ?_); rintro e w7 ⟨rfl, hB7⟩); have b7 := b6.trans (hB7.mono b6.size))
      | (go_at_call 25; ((with_reducible refine (heldBs_nil w7).mono ?_); rintro e w8 ⟨rfl, rfl⟩)))
    go_ret
    exact ⟨rfl, b7⟩
end Go.Proofs.Ytpjlienelkflhaa
