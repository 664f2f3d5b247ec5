/- The laws' marks of texts: markText. -/
import Derived.Test.YthofkmndgedkgaaBase
import Derived.Laws.BytesArg
namespace Go.Proofs.Ythofkmndgedkgaa
open Go.RowKit
set_option linter.unusedVariables false
set_option linter.unusedSimpArgs false
def mdg : Nat → Nat → ByteArray → ByteArray
  | 0, _, out => out
  | f + 1, k, out => if k = 0 then out else mdg f (k / 10) (strOfNums [48 + ((k % 10 : Nat) : Int)] ++ out)
theorem mdg_zero (f : Nat) (out : ByteArray) : mdg f 0 out = out := by
  cases f <;> simp [mdg]
theorem mdg_step (f k : Nat) (out : ByteArray) (h : ¬ k = 0) : mdg (f + 1) k out = mdg f (k / 10) (strOfNums [48 + ((k % 10 : Nat) : Int)] ++ out) := by rw [mdg, if_neg h]
def mtx (k : Nat) : ByteArray := ⟨#[109]⟩ ++ mdg 8 k ⟨#[]⟩
set_option maxRecDepth 100000 in
set_option maxHeartbeats 1000000 in
theorem mtx_any (k : Nat) (k1 : 1 ≤ k) (k2 : k ≤ 4194304) (w : World) :
    Calls Try.prog 68 #[.int .i64 k] w fun e w' => e = .returned (.string (mtx k)) ∧ Below w.heap.size w w' := by
  have d0 : ¬ (k : Int) ≤ 0 := by omega
  go_enter Try.func68, Try.ntmps68
  go_wp2
  go_loopw [0, 3] (fun q o wr => ∃ (f k' : Nat) (out : ByteArray), q = .int .i64 k' ∧ o = .string out ∧ Hid (mdg f k' out = mdg 8 k ⟨#[]⟩) ∧ k' < 10 ^ f ∧ k' ≤ 4194304 ∧ f ≤ 8 ∧ out.size + f = 8 ∧ Below w.heap.size w wr) (fun q _ _ => (intOf q).toNat)
  case atStart => exact ⟨8, k, _, rfl, rfl, Lib.hid rfl, by omega, by omega, by omega, rfl, Below.refl _ _⟩
  case round =>
    obtain ⟨f, k', out, rfl, rfl, hM, hf, hk, hf8, ho, hB⟩ := hrel
    by_cases h0 : k' = 0
    · subst h0
      have hM2 := hM.out
      rw [mdg_zero] at hM2
      have e : mtx k = ⟨#[109]⟩ ++ out := by rw [mtx, ← hM2]
      have s1 : ¬ 9223372036854775807 < 1 + out.size := by omega
      have E := Lib.hid e
      clear e hM2 hM hf hf8 ho
      go_wp2
      go_ret
      exact ⟨by rw [E.out]; rfl, hB⟩
    · cases f with
      | zero => simp at hf; omega
      | succ f =>
        have hM2 := Lib.hid (show mdg f (k' / 10) (strOfNums [48 + ((k' % 10 : Nat) : Int)] ++ out) = mdg 8 k ⟨#[]⟩ by rw [← mdg_step _ _ _ h0]; exact hM.out)
        have hq10 : k' / 10 < 10 ^ f := by rw [Nat.pow_succ] at hf; omega
        have hr1 : (k' : Int) % 10 = ((k' % 10 : Nat) : Int) := by omega
        have hr2 : (k' : Int) / 10 = ((k' / 10 : Nat) : Int) := by omega
        have hd9 : k' % 10 ≤ 9 := by omega
        have hq9 : k' / 10 < k' := by omega
        have hr3 : (k' : Int).tmod 10 = ((k' % 10 : Nat) : Int) := by rw [Int.tmod_eq_emod_of_nonneg (by omega)]; exact hr1
        have hr4 : (k' : Int).tdiv 10 = ((k' / 10 : Nat) : Int) := by rw [Int.tdiv_eq_ediv_of_nonneg (by omega)]; exact hr2
        obtain ⟨d, hd⟩ : ∃ d, k' % 10 = d := ⟨_, rfl⟩
        obtain ⟨q, hq⟩ : ∃ q, k' / 10 = q := ⟨_, rfl⟩
        rw [hd] at hr1 hr3 hd9 hM2
        rw [hq] at hr2 hr4 hq9 hq10 hM2
        clear hd hq hM hf
        have w1 : IntKind.u8.wrap (48 + (d : Int)) = 48 + (d : Int) := IntWalk.u8_in _ (by omega)
        have hcv := run_convert_bytes_arg (wr.alloc (.cells #[.int .u8 (48 + (d : Int))] 5)) 45 5 Try.underlying45 Try.underlying5 wr.heap.size 0 1 1 [48 + (d : Int)] rfl
          (fun i hi => by
            have : i = 0 := by omega
            subst this
            exact (Own.new wr #[.int .u8 (48 + (d : Int))] 5).cell 0) 9 Try.underlying9
        have hs1 := strOfNums_size [48 + (d : Int)]
        obtain ⟨s1, he⟩ : ∃ s, strOfNums [48 + (d : Int)] = s := ⟨_, rfl⟩
        rw [he] at hcv hM2 hs1
        have hs2 : s1.size = 1 := hs1
        have hs3 : ¬ 9223372036854775807 < s1.size + out.size := by omega
        have hs4 : (s1 ++ out).size = s1.size + out.size := by simp
        have i1 : (0 : Int) < (k' : Int) := by omega
        have HH := Lib.hid (show (s1 ++ out).size + f = 8 by omega)
        clear he hs1 hs2 hs4 ho
        go_wp2
        go_roundw
        case rel => exact ⟨f, q, _, rfl, rfl, hM2, hq10, by omega, by omega, HH.out, hB.alloc hB.size _⟩
        case measure => simp [intOf]; omega
end Go.Proofs.Ythofkmndgedkgaa
