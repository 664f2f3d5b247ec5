/- ComponentTable: both contracts and the law. -/
import Derived.Test.YthofkmndgedkgaaCtb
namespace Go.Proofs.Ythofkmndgedkgaa
open Go.RowKit
set_option linter.unusedVariables false
set_option linter.unusedSimpArgs false
theorem ctI_ok (m : Nat) (h1 : 1 ≤ m) (h4 : m ≤ 4) (n : Nat) (hn : (allH (2 * m) 0).length = n) (h0 : 1 ≤ n) (w : World) :
    Calls Try.prog 20 #[.int .i64 m] w fun e w' => ∃ g1 g2 cs ns, e = .returned (.tuple #[.slice (some ⟨g2, 0, none⟩) n n, .int .i64 0]) ∧ PT w' w.heap.size g1 g2 n cs ns ∧ TRd w' g2 n (fun i => rwN m (allH (2 * m) 0) i n) ∧ Below w.heap.size w w' := by
  have hA := Lib.hid (fun w => areI_t (m : Int) 4 w (by omega) (by omega))
  have hT := Lib.hid (fun w => tbI_ok m h1 (by omega) n hn h0 w)
  generalize allH (2 * m) 0 = LL at *
  clear hn
  go_enter Try.func20, Try.ntmps20
  go_wp2_with (first
    | (go_at_call 66; ((with_reducible refine (hA.out _).mono ?_); rintro e w0 ⟨rfl, rfl⟩))
    | (go_at_call 75; ((with_reducible refine (hT.out _).mono ?_); rintro e w2 ⟨g1, g2, cs, ns, hg1, hg2, rfl, hO1, hO2, hR, hnl, hF, hB2⟩)))
  go_ret2
  have hP : PT w2 w.heap.size g1 g2 n cs ns := ⟨hg1, hg2, hO1, hO2, hR, hnl⟩
  exact ⟨g1, g2, cs, ns, rfl, hP, hP.trd _ (fun i => rwN_len _ _ _ _) (fun i j hi hj => by rw [hF i j hi hj (Or.inl hi), rwN_get _ _ _ _ _ hj]), hB2⟩
theorem ctS_ok (m : Nat) (h1 : 1 ≤ m) (h4 : m ≤ 4) (n : Nat) (hn : (allH (2 * m) 0).length = n) (h0 : 1 ≤ n) (w : World) :
    Calls Try.prog 19 #[.int .i64 m] w fun e w' => ∃ gt ct, e = .returned (.tuple #[.slice (some ⟨gt, 0, none⟩) n ct, .int .i64 0]) ∧ TRd w' gt n (fun i => rwN m (allH (2 * m) 0) i n) ∧ Below w.heap.size w w' := by
  have hA := Lib.hid (fun w => inS_t (m : Int) 1 4 w (by omega) (by omega))
  have hT := Lib.hid (fun w => (tbS_ok m h1 (by omega) n hn w).mono fun e w' (h : ∃ v vs, e = .returned v ∧ Rws w' w.heap.size v vs ∧ vs.length = n ∧ RwT w' w.heap.size m (allH (2 * m) 0) n vs n ∧ Below w.heap.size w w') => show ∃ gt ct, e = .returned (.slice (some ⟨gt, 0, none⟩) n ct) ∧ TRd w' gt n (fun i => rwN m (allH (2 * m) 0) i n) ∧ Below w.heap.size w w' from by
    obtain ⟨v, vs, q1, q2, q3, q4, q5⟩ := h
    rcases q2.shape with ⟨s1, s2⟩ | ⟨g, cap, s1, s2, s3, s4⟩
    · rw [s2] at q3; simp at q3; omega
    · rw [q3] at s1 s4
      refine ⟨g, cap, by rw [q1, s1], fun i hi => ?_, q5⟩
      obtain ⟨ga, ca, r1, r2⟩ := q4 i hi
      refine ⟨⟨ga, 0, none⟩, ca, by rw [s4 i hi]; exact r1, fun a e j hj => ?_, fun e => by cases e⟩
      cases e
      rw [show (⟨ga, 0, none⟩ : Addr).add j = ⟨ga, j, none⟩ by rw [Addr.add_mid, Nat.zero_add]]
      exact r2.cell j hj)
  generalize allH (2 * m) 0 = LL at *
  clear hn
  go_enter Try.func19, Try.ntmps19
  go_wp2_with (first
    | (go_at_call 64; ((with_reducible refine (hA.out _).mono ?_); rintro e w0 ⟨rfl, rfl⟩))
    | (go_at_call 74; ((with_reducible refine (hT.out _).mono ?_); rintro e w2 ⟨gt, ct, rfl, hR, hB2⟩)))
  go_ret2
  exact ⟨gt, ct, rfl, hR, hB2⟩
theorem ctI_bad (m : Int) (h : m < 1 ∨ 4 < m) (w : World) : Calls Try.prog 20 #[.int .i64 m] w fun e w' => e = .returned (.tuple #[.slice none 0 0, .int .i64 2]) ∧ Below w.heap.size w w' := by
  have hA := Lib.hid (fun w => areI_f m 4 w h)
  clear h
  go_enter Try.func20, Try.ntmps20
  go_wp2_with (first
    | (go_at_call 66; ((with_reducible refine (hA.out _).mono ?_); rintro e w0 ⟨rfl, rfl⟩)))
  go_ret2
  exact ⟨rfl, Below.refl _ _⟩
theorem ctS_bad (m : Int) (h : m < 1 ∨ 4 < m) (w : World) : Calls Try.prog 19 #[.int .i64 m] w fun e w' => e = .returned (.tuple #[.slice none 0 0, .int .i64 2]) ∧ Below w.heap.size w w' := by
  have hA := Lib.hid (fun w => inS_f m 1 4 w h)
  clear h
  go_enter Try.func19, Try.ntmps19
  go_wp2_with (first
    | (go_at_call 64; ((with_reducible refine (hA.out _).mono ?_); rintro e w0 ⟨rfl, rfl⟩)))
  go_ret2
  exact ⟨rfl, Below.refl _ _⟩
theorem eqTT_nil (w : World) : Calls Try.prog 21 #[.slice none 0 0, .slice none 0 0] w fun e w' => e = .returned (.bool true) ∧ w' = w := by
  go_enter Try.func21, Try.ntmps21
  go_wp2
  go_loopw [5] (fun i wr => i = .int .i64 0 ∧ wr = w) (fun i _ => 0)
  case atStart => exact ⟨rfl, rfl⟩
  case round =>
    obtain ⟨rfl, rfl⟩ := hrel
    go_wp2
    go_ret
    exact ⟨rfl, rfl⟩
theorem markTT_nil (w : World) : Calls Try.prog 22 #[.slice none 0 0, .int .i64 1] w fun e w' => e = .returned (.int .i64 1) ∧ w' = w := by
  go_enter Try.func22, Try.ntmps22
  go_wp2
  go_loopw [1, 5] (fun q i wr => i = .int .i64 0 ∧ q = .int .i64 1 ∧ wr = w) (fun _ i _ => 0)
  case atStart => exact ⟨rfl, rfl, rfl⟩
  case round =>
    obtain ⟨rfl, rfl, rfl⟩ := hrel
    go_wp2
    go_ret
    exact ⟨rfl, rfl⟩
theorem heldTT_nil (w : World) : Calls Try.prog 23 #[.slice none 0 0, .int .i64 1] w fun e w' => e = .returned (.int .i64 1) ∧ w' = w := by
  go_enter Try.func23, Try.ntmps23
  go_wp2
  go_loopw [1, 5] (fun q i wr => i = .int .i64 0 ∧ q = .int .i64 1 ∧ wr = w) (fun _ i _ => 0)
  case atStart => exact ⟨rfl, rfl, rfl⟩
  case round =>
    obtain ⟨rfl, rfl, rfl⟩ := hrel
    go_wp2
    go_ret
    exact ⟨rfl, rfl⟩
set_option maxRecDepth 100000 in
set_option maxHeartbeats 4000000 in
theorem ct_bad (m : Int) (h : m < 1 ∨ 4 < m) (w : World) :
    Calls Try.prog 5 #[.int .i64 m] w fun e w' => e = .returned (.bool true) ∧ Below w.heap.size w w' := by
  have hS := Lib.hid (fun w => ctS_bad m h w)
  have hI := Lib.hid (fun w => ctI_bad m h w)
  clear h
  go_enter Try.func5, Try.ntmps5
  go_wp2_with (first
    | (go_at_call 23; ((with_reducible refine (heldTT_nil w7).mono ?_); rintro e w8 ⟨rfl, rfl⟩))
    | (go_at_call 21; ((with_reducible refine (eqTT_nil w6).mono ?_); rintro e w7 ⟨rfl, rfl⟩))
    | (go_at_call 20; ((with_reducible refine (hI.out w5).mono ?_); rintro e w6 ⟨rfl, hB6⟩))
    | (go_at_call 23; ((with_reducible refine (heldTT_nil w4).mono ?_); rintro e w5 ⟨rfl, rfl⟩))
    | (go_at_call 22; ((with_reducible refine (markTT_nil w3).mono ?_); rintro e w4 ⟨rfl, rfl⟩))
    | (go_at_call 21; ((with_reducible refine (eqTT_nil w2).mono ?_); rintro e w3 ⟨rfl, rfl⟩))
    | (go_at_call 20; ((with_reducible refine (hI.out w1).mono ?_); rintro e w2 ⟨rfl, hB2⟩))
    | (go_at_call 19; ((with_reducible refine (hS.out w).mono ?_); rintro e w1 ⟨rfl, hB1⟩)))
  go_ret
  have b1 := hB1.trans (hB2.mono hB1.size)
  exact ⟨rfl, b1.trans (hB6.mono b1.size)⟩
set_option maxRecDepth 100000 in
set_option maxHeartbeats 4000000 in
theorem ct_good (m : Nat) (h1 : 1 ≤ m) (h4 : m ≤ 4) (w : World) :
    Calls Try.prog 5 #[.int .i64 m] w fun e w' => e = .returned (.bool true) ∧ Below w.heap.size w w' := by
  have hlen := allH_len12 m h1 (by omega)
  have h0 := allH_pos m h1 (by omega)
  obtain ⟨n, hn⟩ : ∃ n, (allH (2 * m) 0).length = n := ⟨_, rfl⟩
  have hS := Lib.hid (fun w => ctS_ok m h1 h4 n hn (by omega) w)
  have hI := Lib.hid (fun w => ctI_ok m h1 h4 n hn (by omega) w)
  rw [hn] at hlen
  obtain ⟨P, hP⟩ : ∃ P, n * n = P := ⟨_, rfl⟩
  have hP2 : P ≤ 100000 := by
    have := Nat.mul_le_mul hlen hlen
    omega
  have hq := Lib.hid (fun gt gt' ct ct' w hR hQ => eqTT gt gt' n ct ct' (fun i => rwN m (allH (2 * m) 0) i n) (fun i => rwN_len _ _ _ _) (by omega) w hR hQ)
  have hk := Lib.hid (fun B g1 g2 cs ns w h => markTT B g1 g2 n cs ns (by omega) P hP hP2 w h)
  have hh := Lib.hid (fun g2 ct w h => heldTT g2 n ct (by omega) P hP hP2 w h)
  have hmr := Lib.hid (show ∀ i, (mkR n i).length = n from fun i => marksI_len _ _)
  generalize allH (2 * m) 0 = LL at *
  clear hn hP h0
  go_enter Try.func5, Try.ntmps5
  go_wp2_with (first
    | (go_at_call 23; ((with_reducible refine (hh.out _ _ w7 ((hT4.below hB6).below hB7)).mono ?_); rintro e w8 ⟨rfl, rfl⟩))
    | (go_at_call 21; ((with_reducible refine (hq.out _ _ _ _ w6 hT6 (hT1b.below hB6)).mono ?_); rintro e w7 ⟨rfl, hB7⟩))
    | (go_at_call 20; ((with_reducible refine (hI.out w5).mono ?_); rintro e w6 ⟨g1', g2', cs', ns', rfl, hP6, hT6, hB6⟩))
    | (go_at_call 23; ((with_reducible refine (hh.out _ _ w4 hT4).mono ?_); rintro e w5 ⟨rfl, rfl⟩))
    | (go_at_call 22; ((with_reducible refine (hk.out w1.heap.size _ _ _ _ w3 (hP2'.below hB3)).mono ?_); rintro e w4 ⟨rfl, ⟨ns4, hP4, hM4⟩, hB4⟩; have bq : Below w1.heap.size w1 w4 := ((hB2.trans (hB3.mono hB2.size)).trans hB4); have hT1b := hT1.below bq; have hT4 := hP4.trd (mkR n) hmr.out hM4))
    | (go_at_call 21; ((with_reducible refine (hq.out _ _ _ _ w2 hT2 (hT1.below hB2)).mono ?_); rintro e w3 ⟨rfl, hB3⟩))
    | (go_at_call 20; ((with_reducible refine (hI.out w1).mono ?_); rintro e w2 ⟨g1, g2, cs, ns, rfl, hP2', hT2, hB2⟩))
    | (go_at_call 19; ((with_reducible refine (hS.out w).mono ?_); rintro e w1 ⟨gt, ct, rfl, hT1, hB1⟩)))
  go_ret
  have b1 := hB1.trans (bq.mono hB1.size)
  have b2 := b1.trans (hB6.mono b1.size)
  exact ⟨rfl, b2.trans (hB7.mono b2.size)⟩
theorem ct_law (m : Int) (w : World) :
    Calls Try.prog 5 #[.int .i64 m] w fun e w' => e = .returned (.bool true) ∧ Below w.heap.size w w' := by
  by_cases h : 1 ≤ m ∧ m ≤ 4
  · obtain ⟨M, rfl⟩ : ∃ M : Nat, m = M := ⟨m.toNat, by omega⟩
    exact ct_good M (by omega) (by omega) w
  · exact ct_bad m (by omega) w
end Go.Proofs.Ythofkmndgedkgaa
