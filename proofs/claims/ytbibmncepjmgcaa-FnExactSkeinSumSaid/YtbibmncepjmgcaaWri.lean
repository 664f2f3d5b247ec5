/- Writhes: program, model and law. -/
import Derived.Test.YtbibmncepjmgcaaBrd
import Derived.Test.YtbibmncepjmgcaaKl
namespace Go.Proofs.Ytbibmncepjmgcaa
open Go.RowKit
set_option linter.unusedVariables false
/-- The writhe of a list. -/
def wri : List Int → Int
  | [] => 0
  | x :: l => wri l + (if 0 < x then 1 else -1)
theorem wri_bd : ∀ l : List Int, -(l.length : Int) ≤ wri l ∧ wri l ≤ l.length
  | [] => by simp [wri]
  | x :: l => by have := wri_bd l; simp only [wri, List.length_cons]; split <;> omega
theorem wri_rev (l : List Int) (x : Int) : wri (l ++ [x]) = wri l + (if 0 < x then 1 else -1) := by
  induction l with
  | nil => rfl
  | cons y l ih => simp only [List.cons_append, wri, ih]; omega
theorem wri_step (xs : List Int) (k : Nat) (h : k < xs.length) : wri (xs.take (k + 1)) = wri (xs.take k) + (if 0 < xs.getD k 0 then 1 else -1) := by
  rw [List.take_succ_eq_append_getElem h, wri_rev, List.getD_eq_getElem?_getD, List.getElem?_eq_getElem h]; rfl
set_option maxRecDepth 100000 in
theorem wriI_any (p : Option Addr) (cap : Nat) (xs : List Int) (w : World) (hx : xs.length ≤ 1000) (hR : Rd w p xs) :
    Calls Try.prog 100 #[.slice p xs.length cap] w fun e w' => e = .returned (.int .i64 (wri xs)) ∧ w' = w := by
  obtain ⟨m, hm⟩ : ∃ m, xs.length = m := ⟨_, rfl⟩
  have hR' := Lib.hid hR
  have hN := Lib.hid hm
  have hend := Lib.hid (show wri (xs.take m) = wri xs by rw [List.take_of_length_le (by omega)])
  rw [hm] at hx ⊢
  clear hR hm
  go_enter Try.func100, Try.ntmps100
  go_wp2
  go_loopw [3, 8] (fun v i wr => ∃ k : Nat, k ≤ m ∧ i = .int .i64 k ∧ v = .int .i64 (wri (xs.take k)) ∧ wr = w) (fun _ i _ => ((m : Int) - intOf i).toNat)
  case atStart => exact ⟨0, by omega, rfl, by simp [wri], rfl⟩
  case round =>
    obtain ⟨k, hk, rfl, rfl, rfl⟩ := hrel
    by_cases hlt : k < m
    · have hks : k < xs.length := by have := hN.out; omega
      obtain ⟨a, rfl⟩ := rd_some hR'.out hks
      have c1 := hR'.out.cell a rfl k hks
      have hst := wri_step xs k hks
      have hbd := wri_bd (xs.take k)
      rw [List.length_take] at hbd
      obtain ⟨x, hxx⟩ : ∃ x, xs.getD k 0 = x := ⟨_, rfl⟩
      rw [hxx] at c1 hst
      have i1 : (k : Int) < (m : Int) := by omega
      have hst' := Lib.hid hst
      have v0 : -1000 ≤ wri (xs.take k) ∧ wri (xs.take k) ≤ 1000 := by omega
      clear hst hxx hbd
      obtain ⟨v, hv⟩ : ∃ v, wri (xs.take k) = v := ⟨_, rfl⟩
      have hv' := Lib.hid hv
      rw [hv] at v0 ⊢
      clear hv
      by_cases g : 0 < x
      · go_wp2
        go_roundw
        case rel => exact ⟨k + 1, by omega, by go_num, by rw [hst'.out, hv'.out, if_pos g], trivial⟩
        case measure => simp [intOf]; omega
      · go_wp2
        go_roundw
        case rel => exact ⟨k + 1, by omega, by go_num, by rw [hst'.out, hv'.out, if_neg g]; rfl, trivial⟩
        case measure => simp [intOf]; omega
    · obtain rfl : k = m := by omega
      go_wp2
      go_ret
      exact ⟨by rw [hend.out]; rfl, rfl⟩
set_option maxRecDepth 100000 in
theorem wriS_any (p : Option Addr) (cap : Nat) (xs : List Int) (w : World) (hx : xs.length ≤ 1000) (hR : Rd w p xs) :
    Calls Try.prog 99 #[.slice p xs.length cap] w fun e w' => e = .returned (.int .i64 (wri xs)) ∧ w' = w := by
  obtain ⟨m, hm⟩ : ∃ m, xs.length = m := ⟨_, rfl⟩
  have hR' := Lib.hid hR
  have hN := Lib.hid hm
  have hend := Lib.hid (show wri (xs.take m) = wri xs by rw [List.take_of_length_le (by omega)])
  rw [hm] at hx ⊢
  clear hR hm
  go_enter Try.func99, Try.ntmps99
  go_wp2
  go_loopw [3, 4] (fun v i wr => ∃ k : Nat, k ≤ m ∧ i = .int .i64 k ∧ v = .int .i64 (wri (xs.take k)) ∧ wr = w) (fun _ i _ => ((m : Int) - intOf i).toNat)
  case atStart => exact ⟨0, by omega, rfl, by simp [wri], rfl⟩
  case round =>
    obtain ⟨k, hk, rfl, rfl, rfl⟩ := hrel
    by_cases hlt : k < m
    · have hks : k < xs.length := by have := hN.out; omega
      obtain ⟨a, rfl⟩ := rd_some hR'.out hks
      have c1 := hR'.out.cell a rfl k hks
      have hst := wri_step xs k hks
      have hbd := wri_bd (xs.take k)
      rw [List.length_take] at hbd
      obtain ⟨x, hxx⟩ : ∃ x, xs.getD k 0 = x := ⟨_, rfl⟩
      rw [hxx] at c1 hst
      have i1 : (k : Int) < (m : Int) := by omega
      have hst' := Lib.hid hst
      have v0 : -1000 ≤ wri (xs.take k) ∧ wri (xs.take k) ≤ 1000 := by omega
      clear hst hxx hbd
      obtain ⟨v, hv⟩ : ∃ v, wri (xs.take k) = v := ⟨_, rfl⟩
      have hv' := Lib.hid hv
      rw [hv] at v0 ⊢
      clear hv
      by_cases g : 0 < x
      · go_wp2
        go_roundw
        case rel => exact ⟨k + 1, by omega, by go_num, by rw [hst'.out, hv'.out, if_pos g], trivial⟩
        case measure => simp [intOf]; omega
      · go_wp2
        go_roundw
        case rel => exact ⟨k + 1, by omega, by go_num, by rw [hst'.out, hv'.out, if_neg g]; rfl, trivial⟩
        case measure => simp [intOf]; omega
    · obtain rfl : k = m := by omega
      go_wp2
      go_ret
      exact ⟨by rw [hend.out]; rfl, rfl⟩
end Go.Proofs.Ytbibmncepjmgcaa
