/- SystemsOf: the program's, the model's, the law. -/
import Derived.Test.YthofkmndgedkgaaMst
import Derived.Test.YthofkmndgedkgaaTxs
import Derived.Test.YthofkmndgedkgaaAre
namespace Go.Proofs.Ythofkmndgedkgaa
open Go.RowKit
set_option linter.unusedVariables false
set_option linter.unusedSimpArgs false
theorem markT_one (B : Nat) (p : Option Addr) (cap : Nat) (xs : List ByteArray) (hx : xs.length ≤ 1048576) (w : World) (hM : TMn w B p xs) (hB : B ≤ w.heap.size) :
    Calls Try.prog 15 #[.slice p xs.length cap, .int .i64 1] w fun e w' => e = .returned (.int .i64 (1 + xs.length)) ∧ TMn w' B p (marksT 1 xs.length) ∧ Below B w w' := markT_any B p cap xs hx 1 (by omega) (by omega) w hM hB
theorem heldT_one (p : Option Addr) (cap : Nat) (m : Nat) (hx : m ≤ 1048576) (w : World) (hR : SRd w p (marksT 1 m)) :
    Calls Try.prog 16 #[.slice p m cap, .int .i64 1] w fun e w' => e = .returned (.int .i64 (1 + m)) ∧ Below w.heap.size w w' := heldT_any p cap m hx 1 (by omega) (by omega) w hR
theorem syI_ok (m : Nat) (h1 : 1 ≤ m) (h6 : m ≤ 6) (w : World) : Calls Try.prog 13 #[.int .i64 m] w (ResT (bsl (allH (2 * m) 0)) 0 w) := by
  have hL := Lib.hid (fun w => lis_ok m h1 h6 w)
  have hA := Lib.hid (fun w => areI_t (m : Int) 6 w (by omega) (by omega))
  go_enter Try.func13, Try.ntmps13
  go_wp2_with (first
    | (go_at_call 66; ((with_reducible refine (hA.out _).mono ?_); rintro e w0 ⟨rfl, rfl⟩))
    | (go_at_call 67; ((with_reducible refine (hL.out _).mono ?_); rintro e w2 ⟨⟨v, rfl, hC⟩, hB⟩)))
  go_ret2
  obtain ⟨p, cap, rfl, hT⟩ := hC.tmn
  exact ⟨p, cap, by rw [bsl_len]; rfl, hT, hB⟩
theorem syI_bad (m : Int) (h : m < 1 ∨ 6 < m) (w : World) : Calls Try.prog 13 #[.int .i64 m] w (ResT [] 2 w) := by
  have hA := Lib.hid (fun w => areI_f m 6 w h)
  clear h
  go_enter Try.func13, Try.ntmps13
  go_wp2_with (first
    | (go_at_call 66; ((with_reducible refine (hA.out _).mono ?_); rintro e w0 ⟨rfl, rfl⟩)))
  go_ret2
  exact ⟨none, 0, rfl, TMn.nil _ _, Below.refl _ _⟩
set_option maxRecDepth 100000 in
theorem allS_ok (m : Nat) (h1 : 1 ≤ m) (h6 : m ≤ 6) (w : World) : Calls Try.prog 65 #[.int .i64 m] w (TxPost w.heap.size [] (allH (2 * m) 0) w) := by
  have hlen := allH_len12 m h1 h6
  have hT := txs_any (2 * m + 1) [] 0 m w.heap.size w.heap.size 0 [] (w.alloc (.cells #[] 9)) (by omega) (by omega) (by simp; omega) (Strs.new w _ _ 0 (Nat.le_refl _) rfl (by decide) _ rfl) (by simp) (by rw [txs_all m h1 h6]; simp; omega)
  rw [txs_all m h1 h6] at hT
  have hT : Calls Try.prog 106 #[.slice (some ⟨w.heap.size, 0, none⟩) 0 0, .string ⟨#[]⟩, .int .i64 0, .int .i64 m] (w.alloc (.cells #[] 9)) (TxPost w.heap.size [] (allH (2 * m) 0) (w.alloc (.cells #[] 9))) := hT
  have hT := Lib.hid hT
  have b0 : Below w.heap.size w (w.alloc (.cells #[] 9)) := (Below.refl _ _).alloc (Nat.le_refl _) _
  go_enter Try.func65, Try.ntmps65
  go_wp2_with (first
    | (go_at_call 106; ((with_reducible refine (hT.out).mono ?_); rintro e w2 ⟨g, cap, rfl, hI, hB⟩)))
  go_ret
  exact ⟨g, cap, rfl, hI, b0.trans hB⟩
theorem syS_ok (m : Nat) (h1 : 1 ≤ m) (h6 : m ≤ 6) (w : World) : Calls Try.prog 12 #[.int .i64 m] w (ResT (bsl (allH (2 * m) 0)) 0 w) := by
  have hL := Lib.hid (fun w => allS_ok m h1 h6 w)
  have hA := Lib.hid (fun w => inS_t (m : Int) 1 6 w (by omega) (by omega))
  go_enter Try.func12, Try.ntmps12
  go_wp2_with (first
    | (go_at_call 64; ((with_reducible refine (hA.out _).mono ?_); rintro e w0 ⟨rfl, rfl⟩))
    | (go_at_call 65; ((with_reducible refine (hL.out _).mono ?_); rintro e w2 ⟨g, cap, rfl, hI, hB⟩)))
  go_ret2
  rw [List.nil_append] at hI
  exact ⟨some ⟨g, 0, none⟩, cap, rfl, TMn.strs (Nat.le_refl _) hI, hB⟩
theorem syS_bad (m : Int) (h : m < 1 ∨ 6 < m) (w : World) : Calls Try.prog 12 #[.int .i64 m] w (ResT [] 2 w) := by
  have hA := Lib.hid (fun w => inS_f m 1 6 w h)
  clear h
  go_enter Try.func12, Try.ntmps12
  go_wp2_with (first
    | (go_at_call 64; ((with_reducible refine (hA.out _).mono ?_); rintro e w0 ⟨rfl, rfl⟩)))
  go_ret2
  exact ⟨none, 0, rfl, TMn.nil _ _, Below.refl _ _⟩
set_option maxRecDepth 100000 in
set_option maxHeartbeats 4000000 in
theorem sy_walk (m : Int) (w : World) (xs : List ByteArray) (hlx : xs.length ≤ 100000) (cd : Int)
    (hS : ∀ w, Calls Try.prog 12 #[.int .i64 m] w (ResT xs cd w))
    (hI : ∀ w, Calls Try.prog 13 #[.int .i64 m] w (ResT xs cd w)) :
    Calls Try.prog 3 #[.int .i64 m] w fun e w' => e = .returned (.bool true) ∧ Below w.heap.size w w' := by
  obtain ⟨l1, hm1⟩ : ∃ m, xs.length = m := ⟨_, rfl⟩
  have he1 := Lib.hid (fun p q cap cap' w hR hQ => eqT_same p q cap cap' xs (by omega) w hR hQ)
  have hk1 := Lib.hid (fun B p cap w hM hB => markT_one B p cap xs (by omega) w hM hB)
  have hh1 := Lib.hid (fun p cap w hR => heldT_one p cap l1 (by omega) w hR)
  have hrs : ∀ w e w', ResT xs cd w e w' → ∃ (p : Option Addr) (cap : Nat), e = .returned (.tuple #[.slice p l1 cap, .int .i64 cd]) ∧ TMn w' w.heap.size p xs ∧ Below w.heap.size w w' := fun w e w' h => by
    obtain ⟨p, cap, h1, h2⟩ := h
    rw [hm1] at h1
    exact ⟨p, cap, h1, h2⟩
  have hS' := Lib.hid (fun w => (hS w).mono (fun e w' h => hrs w e w' h))
  have hI' := Lib.hid (fun w => (hI w).mono (fun e w' h => hrs w e w' h))
  have ll1 : l1 ≤ 100000 := by omega
  rw [hm1] at he1 hk1
  clear hS hI hm1 hlx hrs
  go_enter Try.func3, Try.ntmps3
  go_wp2_with (first
    | (go_at_call 16; ((with_reducible refine (hh1.out _ _ w7 (((hp1b.below hB5 (Nat.le_refl _)).below hB6 (Nat.le_refl _)).below hB7 (Nat.le_refl _)).rd).mono ?_); rintro e w8 ⟨rfl, hB8⟩))
    | (go_at_call 14; ((with_reducible refine (he1.out _ _ _ _ w6 hr1.rd ((hq1b.below hB5 (Nat.le_refl _)).below hB6 (Nat.le_refl _)).rd).mono ?_); rintro e w7 ⟨rfl, hB7⟩))
    | (go_at_call 13; ((with_reducible refine (hI'.out w5).mono ?_); rintro e w6 ⟨r1, rc1, rfl, hr1, hB6⟩))
    | (go_at_call 16; ((with_reducible refine (hh1.out _ _ w4 hp1b.rd).mono ?_); rintro e w5 ⟨rfl, hB5⟩))
    | (go_at_call 15; ((with_reducible refine (hk1.out w1.heap.size _ _ w3 (hp1.below hB3 (Nat.le_refl _)) (Nat.le_trans hB2.size hB3.size)).mono ?_); rintro e w4 ⟨rfl, hp1b, hB4⟩; have bq : Below w1.heap.size w1 w4 := ((hB2.trans (hB3.mono hB2.size)).trans hB4); have hq1b := hq1.below bq (Nat.le_refl _)))
    | (go_at_call 14; ((with_reducible refine (he1.out _ _ _ _ w2 hp1.rd (hq1.below hB2 (Nat.le_refl _)).rd).mono ?_); rintro e w3 ⟨rfl, hB3⟩))
    | (go_at_call 13; ((with_reducible refine (hI'.out w1).mono ?_); rintro e w2 ⟨p1, pc1, rfl, hp1, hB2⟩))
    | (go_at_call 12; ((with_reducible refine (hS'.out w).mono ?_); rintro e w1 ⟨q1, qc1, rfl, hq1, hB1⟩)))
  go_ret
  have b1 := hB1.trans (bq.mono hB1.size)
  have b2 := b1.trans (hB5.mono b1.size)
  have b3 := b2.trans (hB6.mono b2.size)
  have b4 := b3.trans (hB7.mono b3.size)
  exact ⟨rfl, b4.trans (hB8.mono b4.size)⟩
theorem sy_law (m : Int) (w : World) :
    Calls Try.prog 3 #[.int .i64 m] w fun e w' => e = .returned (.bool true) ∧ Below w.heap.size w w' := by
  by_cases h : 1 ≤ m ∧ m ≤ 6
  · obtain ⟨M, rfl⟩ : ∃ M : Nat, m = M := ⟨m.toNat, by omega⟩
    exact sy_walk _ w (bsl (allH (2 * M) 0)) (by rw [bsl_len]; have := allH_len12 M (by omega) (by omega); omega) 0 (fun w => syS_ok M (by omega) (by omega) w) (fun w => syI_ok M (by omega) (by omega) w)
  · exact sy_walk _ w [] (by simp) 2 (fun w => syS_bad m (by omega) w) (fun w => syI_bad m (by omega) w)
end Go.Proofs.Ythofkmndgedkgaa
