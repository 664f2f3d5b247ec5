/- Letters of words by shifts; numbers of lines. -/
import Derived.Test.YtnlbokigogbneaaSpl
import Derived.Test.YtnlbokigogbneaaEnm
namespace Go.Proofs.Ytnlbokigogbneaa
open Go.RowKit
set_option linter.unusedVariables false
theorem and_i64_nat (a b : Nat) (ha : a < 4611686018427387904) (hb : b < 4611686018427387904) : bits .and .i64 (a : Int) (b : Int) = ((a &&& b : Nat) : Int) := by
  have hx : a &&& b < 2 ^ 62 := Nat.and_lt_two_pow _ (by omega)
  have h1 : (BitVec.ofInt 64 (a : Int)).toNat = a := by
    rw [BitVec.ofInt_natCast, BitVec.toNat_ofNat]; exact Nat.mod_eq_of_lt (by omega)
  have h2 : (BitVec.ofInt 64 (b : Int)).toNat = b := by
    rw [BitVec.ofInt_natCast, BitVec.toNat_ofNat]; exact Nat.mod_eq_of_lt (by omega)
  show IntKind.i64.wrap ((BitVec.ofInt 64 (a : Int) &&& BitVec.ofInt 64 (b : Int)).toNat : Int) = _
  rw [BitVec.toNat_and, h1, h2]
  exact IntWalk.i64_in _ (by omega)
theorem or_i64_nat (a b : Nat) (ha : a < 4611686018427387904) (hb : b < 4611686018427387904) : bits .or .i64 (a : Int) (b : Int) = ((a ||| b : Nat) : Int) := by
  have hx : a ||| b < 2 ^ 62 := Nat.or_lt_two_pow (by omega) (by omega)
  have h1 : (BitVec.ofInt 64 (a : Int)).toNat = a := by
    rw [BitVec.ofInt_natCast, BitVec.toNat_ofNat]; exact Nat.mod_eq_of_lt (by omega)
  have h2 : (BitVec.ofInt 64 (b : Int)).toNat = b := by
    rw [BitVec.ofInt_natCast, BitVec.toNat_ofNat]; exact Nat.mod_eq_of_lt (by omega)
  show IntKind.i64.wrap ((BitVec.ofInt 64 (a : Int) ||| BitVec.ofInt 64 (b : Int)).toNat : Int) = _
  rw [BitVec.toNat_or, h1, h2]
  exact IntWalk.i64_in _ (by omega)
theorem and_one (x : Int) (h0 : 0 ≤ x) (h1 : x < 4611686018427387904) : bits .and .i64 x 1 = x % 2 := by
  have h := and_i64_nat x.toNat 1 (by omega) (by omega)
  rw [Nat.and_one_is_mod] at h
  rw [show ((x.toNat : Nat) : Int) = x by omega] at h
  rw [show (1 : Int) = ((1 : Nat) : Int) from rfl, h]
  omega
theorem or_both (u v : Int) (n : Nat) (h8 : n ≤ 8) (u0 : 0 ≤ u) (u1 : u < 2 ^ n) (v0 : 0 ≤ v) (v1 : v < 2 ^ n) : bits .or .i64 (u * 2 ^ n) v = u * 2 ^ n + v ∧ 0 ≤ u * 2 ^ n ∧ u * 2 ^ n ≤ 65536 ∧ 0 ≤ u * 2 ^ n + v ∧ u * 2 ^ n + v ≤ 65536 := by
  obtain ⟨U, rfl⟩ : ∃ U : Nat, u = U := ⟨u.toNat, by omega⟩
  obtain ⟨V, rfl⟩ : ∃ V : Nat, v = V := ⟨v.toNat, by omega⟩
  have hn : (2 : Int) ^ n = ((2 ^ n : Nat) : Int) := by push_cast; rfl
  have h256 : 2 ^ n ≤ 2 ^ 8 := Nat.pow_le_pow_right (by omega) h8
  rw [hn] at u1 v1 ⊢
  have u1' : U < 2 ^ n := by omega
  have v1' : V < 2 ^ n := by omega
  have hm : U * 2 ^ n + 2 ^ n ≤ 256 * 2 ^ n := by
    rw [← Nat.succ_mul]; exact Nat.mul_le_mul_right _ (by omega)
  have hm2 : 256 * 2 ^ n ≤ 65536 := by omega
  have hor : U * 2 ^ n ||| V = U * 2 ^ n + V := by rw [Nat.mul_comm U, ← Nat.two_pow_add_eq_or_of_lt v1']
  have hb := or_i64_nat (U * 2 ^ n) V (by omega) (by omega)
  rw [hor] at hb
  generalize 2 ^ n = P at *
  have hk := Int.natCast_mul U P
  generalize U * P = Z at *
  rw [hk] at hb
  rw [← hk] at hb ⊢
  exact ⟨hb, by omega, by omega, by omega, by omega⟩
theorem sh_bd (x : Int) (s : Nat) (h0 : 0 ≤ x) (h1 : x ≤ 65536) : 0 ≤ x / 2 ^ s ∧ x / 2 ^ s ≤ 65536 :=
  ⟨Int.ediv_nonneg h0 (Int.le_of_lt (Int.pow_pos (by omega))), Int.le_trans (Int.ediv_le_self _ h0) h1⟩
theorem letI_any (N x i : Int) (s : Nat) (hs : N - 1 - i = s) (s1 : s ≤ 60) (n0 : 0 ≤ N) (n1 : N ≤ 100) (x0 : 0 ≤ x) (x1 : x ≤ 65536) (w : World) :
    Calls Try.prog 49 #[.int .i64 N, .int .i64 x, .int .i64 i] w fun e w' => e = .returned (.int .i64 (ltr x s)) ∧ w' = w := by
  obtain ⟨b0, b1⟩ := sh_bd x s x0 x1
  have ha := and_one (x / 2 ^ s) b0 (by omega)
  unfold ltr
  rw [Int.toNat_natCast]
  have e1 : IntKind.i64.wrap (N - 1) = N - 1 := IntWalk.i64_in _ (by omega)
  have e2 : IntKind.i64.wrap (N - 1 - i) = s := by rw [hs]; exact IntWalk.i64_in _ (by omega)
  have e3 : (Op.shift .shr .i64 x .i64 (s : Int) : Sem Value) = pure (.int .i64 (x / 2 ^ s)) := by
    rw [shift_shr .i64 .i64 x s (by omega) (by show (s : Int) ≤ 64; omega), Int.toNat_natCast]
  clear hs
  go_enter Try.func49, Try.ntmps49
  go_wp2
  go_ret
  exact ⟨rfl, rfl⟩
theorem letS_any (u n i : Int) (s : Nat) (hs : n - 1 - i = s) (s1 : s ≤ 60) (n0 : 0 ≤ n) (n1 : n ≤ 100) (x0 : 0 ≤ u) (x1 : u ≤ 65536) (w : World) :
    Calls Try.prog 47 #[.int .i64 u, .int .i64 n, .int .i64 i] w fun e w' => e = .returned (.int .i64 (ltr u s)) ∧ w' = w := by
  obtain ⟨b0, b1⟩ := sh_bd u s x0 x1
  have ha := and_one (u / 2 ^ s) b0 (by omega)
  unfold ltr
  rw [Int.toNat_natCast]
  have e1 : IntKind.i64.wrap (n - 1) = n - 1 := IntWalk.i64_in _ (by omega)
  have e2 : IntKind.i64.wrap (n - 1 - i) = s := by rw [hs]; exact IntWalk.i64_in _ (by omega)
  have e4 : IntKind.u64.wrap (s : Int) = s := by rw [IntKind.wrap_u64]; omega
  have e3 : (Op.shift .shr .i64 u .u64 (s : Int) : Sem Value) = pure (.int .i64 (u / 2 ^ s)) := by
    rw [shift_shr .i64 .u64 u s (by omega) (by show (s : Int) ≤ 64; omega), Int.toNat_natCast]
  clear hs
  go_enter Try.func47, Try.ntmps47
  go_wp2
  go_ret
  exact ⟨rfl, rfl⟩
/-- The number of a line that does not go through. -/
def arcN (q r : Int) (up : Bool) (a : Int) : Int := if up then (if a = 1 then q else -1) else (if a = 0 then r else -1)
theorem arcI_any (p q r : Int) (up : Bool) (a : Int) (ha : a = 0 ∨ a = 1) (w : World) :
    Calls Try.prog 50 #[.agg (spc p q r), .bool up, .int .i64 a] w fun e w' => e = .returned (.int .i64 (arcN q r up a)) ∧ Below w.heap.size w w' := by
  obtain ⟨c0, c1, c2⟩ := spc_own (Own.new w (spc p q r) 43)
  have hB : Below w.heap.size w (w.alloc (.cells (spc p q r) 43)) := (Below.refl _ _).alloc (Nat.le_refl _) _
  unfold arcN
  rcases ha with rfl | rfl <;> cases up <;>
  · go_enter Try.func50, Try.ntmps50
    go_wp2
    go_ret
    exact ⟨rfl, hB⟩
end Go.Proofs.Ytnlbokigogbneaa
