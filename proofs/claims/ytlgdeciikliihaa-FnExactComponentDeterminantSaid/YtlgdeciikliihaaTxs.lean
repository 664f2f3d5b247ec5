/- The model's list of texts of brackets. -/
import Derived.Test.YtlgdeciikliihaaTxM
import Derived.Test.YtlgdeciikliihaaStr
import Derived.Test.YtlgdeciikliihaaSpecA
namespace Go.Proofs.Ytlgdeciikliihaa
open Go.RowKit
set_option linter.unusedVariables false
set_option linter.unusedSimpArgs false
theorem bsv_size (t : List UInt8) : (bsv t).size = t.length := by simp [bsv, ByteArray.size]
def TxPost (base : Nat) (xs : List ByteArray) (L : List (List UInt8)) (w : World) (e : Ending) (w' : World) : Prop :=
  ∃ g cap, e = .returned (stval g cap (xs ++ bsl L)) ∧ Strs w' base g cap (xs ++ bsl L) ∧ Below base w w'
set_option maxRecDepth 100000 in
set_option maxHeartbeats 4000000 in
theorem txs_any (f : Nat) : ∀ (t : List UInt8) (o r base g cap : Nat) (xs : List ByteArray) (w : World), f = 2 * r + o + 1 → o + r ≤ 100 → t.length + f ≤ 1000 → Strs w base g cap xs → base ≤ w.heap.size → xs.length + (txs f t o r).length ≤ 100000 →
    Calls Try.prog 75 #[stval g cap xs, .string (bsv t), .int .i64 o, .int .i64 r] w (TxPost base xs (txs f t o r) w) := by
  induction f with
  | zero => intro t o r base g cap xs w hf; omega
  | succ f ih =>
    intro t o r base g cap xs w hf ho htl hI hb hlen
    have hts : ¬ 9223372036854775807 < (bsv t).size + 1 := by rw [bsv_size]; omega
    by_cases h0 : o = 0 ∧ r = 0
    · obtain ⟨rfl, rfl⟩ := h0
      rw [txs_end] at hlen ⊢
      have hxl : xs.length < 1000000 := by omega
      clear ih hf hlen htl
      go_enter Try.func75, Try.ntmps75
      go_wp2_with (first
        | (refine wpList_append_strs rfl (.tmp 15) (.tmp 17) rfl base g cap xs (bsv t) rfl (hI.alloc _) ⟨w.heap.size, 0, none⟩ 1 rfl ((Own.new _ _ _).cell 0) (by omega) (by simp; omega) ?_; intro g2 cap2 w2 hI2 hG2))
      go_ret
      refine ⟨g2, cap2, rfl, hI2, ((Below.refl base w).alloc hb _).grown hG2 (by simp; omega) (fun k e => by have := hI.1; cases e; exact this)⟩
    · rw [txs_step _ _ _ _ h0] at hlen ⊢
      cases r with
      | zero =>
        cases o with
        | zero => exact absurd ⟨rfl, rfl⟩ h0
        | succ o' =>
          have hb1 := hI.1
          rw [if_neg (by omega)] at hlen ⊢
          obtain ⟨A, hA⟩ : ∃ A : List (List UInt8), [] = A := ⟨_, rfl⟩
          rw [hA] at hlen ⊢
          rw [if_pos (by omega)] at hlen ⊢
          rw [show o' + 1 - 1 = o' by omega] at hlen ⊢
          obtain ⟨C, hC⟩ : ∃ C, txs f (t ++ [41]) o' 0 = C := ⟨_, rfl⟩
          rw [hC] at hlen ⊢
          have i2 : Calls Try.prog 75 #[stval g cap xs, .string (bsv t ++ ⟨#[41]⟩), .int .i64 (o' : Int), .int .i64 0] w (TxPost base xs C w) := by
            have := ih (t ++ [41]) o' 0 base g cap xs w (by omega) (by omega) (by simp; omega) hI hb (by rw [hC]; rw [List.length_append] at hlen; omega)
            rw [hC, ← bsv_app] at this; exact this
          have i2 := Lib.hid i2
          clear ih hf hlen htl
          go_enter Try.func75, Try.ntmps75
          go_wp2_with (first
            | (go_at_call 75; ((with_reducible refine (i2.out).mono ?_); rintro e w3 ⟨g3, cap3, rfl, hI3, hB3⟩)))
          go_ret
          subst hA; exact ⟨g3, cap3, by rw [List.nil_append]; rfl, by rw [List.nil_append]; exact hI3, hB3⟩
      | succ r' =>
        cases o with
        | zero =>
          have hb1 := hI.1
          rw [if_pos (by omega)] at hlen ⊢
          rw [show r' + 1 - 1 = r' by omega] at hlen ⊢
          have i1 := ih (t ++ [40]) (0 + 1) r' base g cap xs w (by omega) (by omega) (by simp; omega) hI hb (by rw [List.length_append] at hlen; omega)
          rw [← bsv_app] at i1
          have i1 : Calls Try.prog 75 #[stval g cap xs, .string (bsv t ++ ⟨#[40]⟩), .int .i64 1, .int .i64 (r' : Int)] w _ := i1
          obtain ⟨A, hA⟩ : ∃ A, txs f (t ++ [40]) (0 + 1) r' = A := ⟨_, rfl⟩
          rw [hA] at i1 hlen ⊢
          have i1 := Lib.hid i1
          rw [if_neg (by omega)] at hlen ⊢
          clear ih hf hlen htl
          go_enter Try.func75, Try.ntmps75
          go_wp2_with (first
            | (go_at_call 75; ((with_reducible refine (i1.out).mono ?_); rintro e w2 ⟨g2, cap2, rfl, hI2, hB2⟩)))
          go_ret
          exact ⟨g2, cap2, by rw [List.append_nil]; rfl, by rw [List.append_nil]; exact hI2, hB2⟩
        | succ o' =>
          have hb1 := hI.1
          rw [if_pos (by omega)] at hlen ⊢
          rw [show r' + 1 - 1 = r' by omega] at hlen ⊢
          have i1 := ih (t ++ [40]) ((o' + 1) + 1) r' base g cap xs w (by omega) (by omega) (by simp; omega) hI hb (by rw [List.length_append] at hlen; omega)
          rw [← bsv_app] at i1
          have i1 : Calls Try.prog 75 #[stval g cap xs, .string (bsv t ++ ⟨#[40]⟩), .int .i64 ((o' : Int) + 1 + 1), .int .i64 (r' : Int)] w _ := i1
          obtain ⟨A, hA⟩ : ∃ A, txs f (t ++ [40]) ((o' + 1) + 1) r' = A := ⟨_, rfl⟩
          rw [hA] at i1 hlen ⊢
          have i1 := Lib.hid i1
          rw [if_pos (by omega)] at hlen ⊢
          rw [show o' + 1 - 1 = o' by omega] at hlen ⊢
          obtain ⟨C, hC⟩ : ∃ C, txs f (t ++ [41]) o' (r' + 1) = C := ⟨_, rfl⟩
          rw [hC] at hlen ⊢
          have i2 : ∀ g2 cap2 w2, Strs w2 base g2 cap2 (xs ++ bsl A) → base ≤ w2.heap.size → Calls Try.prog 75 #[stval g2 cap2 (xs ++ bsl A), .string (bsv t ++ ⟨#[41]⟩), .int .i64 (o' : Int), .int .i64 ((r' : Int) + 1)] w2 (TxPost base (xs ++ bsl A) C w2) := fun g2 cap2 w2 h1 h2 => by
            have := ih (t ++ [41]) o' (r' + 1) base g2 cap2 (xs ++ bsl A) w2 (by omega) (by omega) (by simp; omega) h1 h2 (by rw [hC, List.length_append]; rw [List.length_append] at hlen; simp only [bsl, List.length_map]; omega)
            rw [hC, ← bsv_app] at this; exact this
          have i2 := Lib.hid i2
          clear ih hf hlen htl
          go_enter Try.func75, Try.ntmps75
          go_wp2_with (first
            | (go_at_call 75; ((with_reducible refine (i1.out).mono ?_); rintro e w2 ⟨g2, cap2, rfl, hI2, hB2⟩))
            | (go_at_call 75; ((with_reducible refine (i2.out g2 cap2 w2 hI2 (Nat.le_trans hb hB2.size)).mono ?_); rintro e w3 ⟨g3, cap3, rfl, hI3, hB3⟩)))
          go_ret
          exact ⟨g3, cap3, by rw [bsl_app, ← List.append_assoc]; rfl, by rw [bsl_app, ← List.append_assoc]; exact hI3, hB2.trans hB3⟩
end Go.Proofs.Ytlgdeciikliihaa
