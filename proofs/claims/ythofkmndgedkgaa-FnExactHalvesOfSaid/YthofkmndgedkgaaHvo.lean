/- HalvesOf: the program's, the model's, the law. -/
import Derived.Test.YthofkmndgedkgaaHss
import Derived.Test.YthofkmndgedkgaaCol
namespace Go.Proofs.Ythofkmndgedkgaa
open Go.RowKit
set_option linter.unusedVariables false
set_option linter.unusedSimpArgs false
theorem markT_onH (B : Nat) (p : Option Addr) (cap : Nat) (xs : List ByteArray) (hx : xs.length ≤ 1048576) (w : World) (hM : TMn w B p xs) (hB : B ≤ w.heap.size) :
    Calls Try.prog 15 #[.slice p xs.length cap, .int .i64 1] w fun e w' => e = .returned (.int .i64 (1 + xs.length)) ∧ TMn w' B p (marksT 1 xs.length) ∧ Below B w w' := markT_any B p cap xs hx 1 (by omega) (by omega) w hM hB
theorem heldT_onH (p : Option Addr) (cap : Nat) (m : Nat) (hx : m ≤ 1048576) (w : World) (hR : SRd w p (marksT 1 m)) :
    Calls Try.prog 16 #[.slice p m cap, .int .i64 1] w fun e w' => e = .returned (.int .i64 (1 + m)) ∧ Below w.heap.size w w' := heldT_any p cap m hx 1 (by omega) (by omega) w hR
set_option maxRecDepth 100000 in
theorem hvI_ok (n k : Nat) (h1 : 1 ≤ n) (h6 : n ≤ 6) (hk : k ≤ n) (he : (n - k) % 2 = 0) (w : World) : Calls Try.prog 32 #[.int .i64 n, .int .i64 k] w (ResT (bsl (allH n k)) 0 w) := by
  have hC := Lib.hid (fun w => cellI_t n k w ⟨⟨by omega, by omega⟩, by omega, by omega, by omega⟩)
  have hS := Lib.hid (fun w => seaI_any (n : Int) k w)
  have hlen := allH_small n k h1 (by omega) hk he
  have hA := Lib.hid (col_ok n k (by omega) (by omega) (by omega) ((w.alloc (.cells #[.int .i64 (n : Int)] 2)).alloc (.cells #[.int .i64 (k : Int)] 2)) w.heap.size (w.heap.size + 1) (by simp; omega) (by simp)
    (((Own.new w _ _).alloc _).cell 0) ((Own.at (w.alloc (.cells #[.int .i64 (n : Int)] 2)) _ _ (by simp)).cell 0))
  have n6 : ¬ (6 : Int) < (n : Int) := by omega
  clear he hk
  go_enter Try.func32, Try.ntmps32
  go_wp2_with (first
    | (go_at_call 84; ((with_reducible refine (hC.out _).mono ?_); rintro e w0 ⟨rfl, rfl⟩))
    | (go_at_call 86; ((with_reducible refine (hS.out _).mono ?_); rintro e w1 ⟨rfl, rfl⟩))
    | (go_at_call 85; ((with_reducible refine (hA.out).mono ?_); rintro e w2 ⟨⟨v, rfl, hC2⟩, hB⟩)))
  go_ret2
  have b0 : Below w.heap.size w ((w.alloc (.cells #[.int .i64 (n : Int)] 2)).alloc (.cells #[.int .i64 (k : Int)] 2)) := ((Below.refl _ _).alloc (Nat.le_refl _) _).alloc (by simp) _
  obtain ⟨p, cap, rfl, hT⟩ := (hC2.base b0.size).tmn
  exact ⟨p, cap, by rw [bsl_len]; rfl, hT, b0.trans (hB.mono b0.size)⟩
theorem hvI_bad (n k : Int) (h : ¬ CellOk n k 6) (hk : -9223372036854775808 ≤ k ∧ k ≤ 9223372036854775807) (w : World) : Calls Try.prog 32 #[.int .i64 n, .int .i64 k] w (ResT [] 2 w) := by
  by_cases h6 : 6 < n
  · clear h hk
    go_enter Try.func32, Try.ntmps32
    go_wp2
    go_ret2
    exact ⟨none, 0, rfl, TMn.nil _ _, Below.refl _ _⟩
  · have hC := Lib.hid (fun w => cellI_f n k w (fun hc => h ⟨⟨hc.1.1, by omega⟩, hc.2⟩) hk)
    clear h hk
    go_enter Try.func32, Try.ntmps32
    go_wp2_with (first
      | (go_at_call 84; ((with_reducible refine (hC.out _).mono ?_); rintro e w0 ⟨rfl, rfl⟩)))
    go_ret2
    exact ⟨none, 0, rfl, TMn.nil _ _, Below.refl _ _⟩
theorem hvS_ok (n k : Nat) (h1 : 1 ≤ n) (h6 : n ≤ 6) (hk : k ≤ n) (he : (n - k) % 2 = 0) (w : World) : Calls Try.prog 31 #[.int .i64 n, .int .i64 k] w (ResT (bsl (allH n k)) 0 w) := by
  have hC := Lib.hid (fun w => rangeS_t n k 6 w ⟨⟨by omega, by omega⟩, by omega, by omega, by omega⟩ (by omega))
  have hL := fun w => hsS_ok n k h1 (by omega) w
  rw [tx3_all n k h1 (by omega) hk he] at hL
  have hL := Lib.hid hL
  clear he hk
  go_enter Try.func31, Try.ntmps31
  go_wp2_with (first
    | (go_at_call 82; ((with_reducible refine (hC.out _).mono ?_); rintro e w0 ⟨rfl, rfl⟩))
    | (go_at_call 83; ((with_reducible refine (hL.out _).mono ?_); rintro e w2 ⟨g, cap, rfl, hI, hB⟩)))
  go_ret2
  rw [List.nil_append] at hI
  exact ⟨some ⟨g, 0, none⟩, cap, rfl, TMn.strs (Nat.le_refl _) hI, hB⟩
theorem hvS_bad (n k : Int) (h : ¬ CellOk n k 6) (w : World) : Calls Try.prog 31 #[.int .i64 n, .int .i64 k] w (ResT [] 2 w) := by
  have hC := Lib.hid (fun w => rangeS_f n k 6 w h (by omega))
  clear h
  go_enter Try.func31, Try.ntmps31
  go_wp2_with (first
    | (go_at_call 82; ((with_reducible refine (hC.out _).mono ?_); rintro e w0 ⟨rfl, rfl⟩)))
  go_ret2
  exact ⟨none, 0, rfl, TMn.nil _ _, Below.refl _ _⟩
set_option maxRecDepth 100000 in
set_option maxHeartbeats 4000000 in
theorem hv_walk (m k : Int) (w : World) (xs : List ByteArray) (hlx : xs.length ≤ 100000) (cd : Int)
    (hS : ∀ w, Calls Try.prog 31 #[.int .i64 m, .int .i64 k] w (ResT xs cd w))
    (hI : ∀ w, Calls Try.prog 32 #[.int .i64 m, .int .i64 k] w (ResT xs cd w)) :
    Calls Try.prog 8 #[.int .i64 m, .int .i64 k] w fun e w' => e = .returned (.bool true) ∧ Below w.heap.size w w' := by
  obtain ⟨l1, hm1⟩ : ∃ m, xs.length = m := ⟨_, rfl⟩
  have he1 := Lib.hid (fun p q cap cap' w hR hQ => eqT_same p q cap cap' xs (by omega) w hR hQ)
  have hk1 := Lib.hid (fun B p cap w hM hB => markT_onH B p cap xs (by omega) w hM hB)
  have hh1 := Lib.hid (fun p cap w hR => heldT_onH p cap l1 (by omega) w hR)
  have hrs : ∀ w e w', ResT xs cd w e w' → ∃ (p : Option Addr) (cap : Nat), e = .returned (.tuple #[.slice p l1 cap, .int .i64 cd]) ∧ TMn w' w.heap.size p xs ∧ Below w.heap.size w w' := fun w e w' h => by
    obtain ⟨p, cap, h1, h2⟩ := h
    rw [hm1] at h1
    exact ⟨p, cap, h1, h2⟩
  have hS' := Lib.hid (fun w => (hS w).mono (fun e w' h => hrs w e w' h))
  have hI' := Lib.hid (fun w => (hI w).mono (fun e w' h => hrs w e w' h))
  have ll1 : l1 ≤ 100000 := by omega
  rw [hm1] at he1 hk1
  clear hS hI hm1 hlx hrs
  go_enter Try.func8, Try.ntmps8
  go_wp2_with (first
    | (go_at_call 16; ((with_reducible refine (hh1.out _ _ w7 (((hp1b.below hB5 (Nat.le_refl _)).below hB6 (Nat.le_refl _)).below hB7 (Nat.le_refl _)).rd).mono ?_); rintro e w8 ⟨rfl, hB8⟩))
    | (go_at_call 14; ((with_reducible refine (he1.out _ _ _ _ w6 hr1.rd ((hq1b.below hB5 (Nat.le_refl _)).below hB6 (Nat.le_refl _)).rd).mono ?_); rintro e w7 ⟨rfl, hB7⟩))
    | (go_at_call 32; ((with_reducible refine (hI'.out w5).mono ?_); rintro e w6 ⟨r1, rc1, rfl, hr1, hB6⟩))
    | (go_at_call 16; ((with_reducible refine (hh1.out _ _ w4 hp1b.rd).mono ?_); rintro e w5 ⟨rfl, hB5⟩))
    | (go_at_call 15; ((with_reducible refine (hk1.out w1.heap.size _ _ w3 (hp1.below hB3 (Nat.le_refl _)) (Nat.le_trans hB2.size hB3.size)).mono ?_); rintro e w4 ⟨rfl, hp1b, hB4⟩; have bq : Below w1.heap.size w1 w4 := ((hB2.trans (hB3.mono hB2.size)).trans hB4); have hq1b := hq1.below bq (Nat.le_refl _)))
    | (go_at_call 14; ((with_reducible refine (he1.out _ _ _ _ w2 hp1.rd (hq1.below hB2 (Nat.le_refl _)).rd).mono ?_); rintro e w3 ⟨rfl, hB3⟩))
    | (go_at_call 32; ((with_reducible refine (hI'.out w1).mono ?_); rintro e w2 ⟨p1, pc1, rfl, hp1, hB2⟩))
    | (go_at_call 31; ((with_reducible refine (hS'.out w).mono ?_); rintro e w1 ⟨q1, qc1, rfl, hq1, hB1⟩)))
  go_ret
  have b1 := hB1.trans (bq.mono hB1.size)
  have b2 := b1.trans (hB5.mono b1.size)
  have b3 := b2.trans (hB6.mono b2.size)
  have b4 := b3.trans (hB7.mono b3.size)
  exact ⟨rfl, b4.trans (hB8.mono b4.size)⟩
theorem hv_law (n k : Int) (w : World) (hk : -9223372036854775808 ≤ k ∧ k ≤ 9223372036854775807) :
    Calls Try.prog 8 #[.int .i64 n, .int .i64 k] w fun e w' => e = .returned (.bool true) ∧ Below w.heap.size w w' := by
  by_cases h : CellOk n k 6
  · obtain ⟨⟨h1, h2⟩, h3, h4, h5⟩ := h
    obtain ⟨N, rfl⟩ : ∃ N : Nat, n = N := ⟨n.toNat, by omega⟩
    obtain ⟨K, rfl⟩ : ∃ K : Nat, k = K := ⟨k.toNat, by omega⟩
    have hs := allH_small N K (by omega) (by omega) (by omega) (by omega)
    exact hv_walk _ _ w (bsl (allH N K)) (by rw [bsl_len]; omega) 0 (fun w => hvS_ok N K (by omega) (by omega) (by omega) (by omega) w) (fun w => hvI_ok N K (by omega) (by omega) (by omega) (by omega) w)
  · exact hv_walk _ _ w [] (by simp) 2 (fun w => hvS_bad n k h w) (fun w => hvI_bad n k h hk w)
end Go.Proofs.Ythofkmndgedkgaa
