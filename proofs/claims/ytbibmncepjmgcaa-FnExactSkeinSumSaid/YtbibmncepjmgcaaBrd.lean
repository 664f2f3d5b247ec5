/- Braid words: both checks. -/
import Derived.Test.YtbibmncepjmgcaaKc
import Derived.Test.YtbibmncepjmgcaaKa
import Derived.IntWalk
namespace Go.Proofs.Ytbibmncepjmgcaa
open Go.RowKit
set_option linter.unusedVariables false
/-- A number of a braid word for n strands. -/
def okC (n x : Int) : Bool := decide (x ≠ 0 ∧ -n < x ∧ x < n)
/-- A braid word. -/
def brdB (n : Int) (xs : List Int) : Bool := decide (2 ≤ n ∧ n ≤ 6 ∧ xs.length ≤ 24) && xs.all (okC n)
theorem brdB_t {n : Int} {xs : List Int} (h : brdB n xs = true) : (2 ≤ n ∧ n ≤ 6 ∧ xs.length ≤ 24) ∧ ∀ x ∈ xs, x ≠ 0 ∧ -n < x ∧ x < n := by
  unfold brdB at h
  rw [Bool.and_eq_true] at h
  exact ⟨by simpa using h.1, fun x hx => by have := List.all_eq_true.1 h.2 x hx; simpa [okC] using this⟩
theorem crossI_any (n x : Int) (w : World) (h0 : -1000 ≤ n) (h1 : n ≤ 1000) :
    Calls Try.prog 87 #[.int .i64 n, .int .i64 x] w fun e w' => e = .returned (.bool (okC n x)) ∧ w' = w := by
  by_cases hx : x = 0
  · subst hx
    rw [show okC n 0 = false by simp [okC]]
    go_enter Try.func87, Try.ntmps87
    go_wp2
    go_ret
    exact ⟨rfl, rfl⟩
  · have e0 : (x == 0) = false := by simpa using hx
    by_cases h2 : -n < x
    · by_cases h3 : x < n
      · rw [show okC n x = true by simp [okC]; omega]
        go_enter Try.func87, Try.ntmps87
        go_wp2
        go_ret
        exact ⟨by first | rfl | (simp <;> omega), rfl⟩
      · rw [show okC n x = false by simp [okC]; omega]
        go_enter Try.func87, Try.ntmps87
        go_wp2
        go_ret
        exact ⟨by first | rfl | (simp <;> omega), rfl⟩
    · rw [show okC n x = false by simp [okC]; omega]
      go_enter Try.func87, Try.ntmps87
      go_wp2
      go_ret
      exact ⟨by first | rfl | (simp <;> omega), rfl⟩
set_option maxRecDepth 100000 in
set_option maxHeartbeats 1000000 in
theorem isBraidI_any (n : Int) (p : Option Addr) (cap : Nat) (xs : List Int) (w : World) (hx : xs.length ≤ 1048576) (hR : Rd w p xs) :
    Calls Try.prog 45 #[.int .i64 n, .slice p xs.length cap] w fun e w' => e = .returned (.bool (brdB n xs)) ∧ w' = w := by
  by_cases h2 : n < 2
  · have e : brdB n xs = false := by unfold brdB; simp; omega
    rw [e]; clear e
    go_enter Try.func45, Try.ntmps45
    go_wp2
    go_ret
    exact ⟨rfl, rfl⟩
  · by_cases h8 : 6 < n
    · have e : brdB n xs = false := by unfold brdB; simp; omega
      rw [e]; clear e
      go_enter Try.func45, Try.ntmps45
      go_wp2
      go_ret
      exact ⟨rfl, rfl⟩
    · by_cases h60 : 24 < xs.length
      · have e : brdB n xs = false := by unfold brdB; simp; omega
        rw [e]; clear e
        have h60' : (24 : Int) < (xs.length : Int) := by omega
        go_enter Try.func45, Try.ntmps45
        go_wp2
        go_ret
        exact ⟨rfl, rfl⟩
      · have e : brdB n xs = xs.all (okC n) := by
          unfold brdB; rw [show decide (2 ≤ n ∧ n ≤ 6 ∧ xs.length ≤ 24) = true by simp; omega, Bool.true_and]
        obtain ⟨m, hm⟩ : ∃ m, xs.length = m := ⟨_, rfl⟩
        obtain ⟨b, hb⟩ : ∃ b, xs.all (okC n) = b := ⟨_, rfl⟩
        rw [e, hb]
        have hb' := Lib.hid hb
        have hR' := Lib.hid hR
        have hN := Lib.hid hm
        rw [hm] at h60 hx ⊢
        have h60' : ¬ (24 : Int) < (m : Int) := by omega
        have hcr := Lib.hid (fun x w => crossI_any n x w (by omega) (by omega))
        clear e hb hR hm
        go_enter Try.func45, Try.ntmps45
        go_wp2
        go_loopw [20] (fun i wr => ∃ k : Nat, k ≤ m ∧ i = .int .i64 k ∧ Hid ((xs.drop k).all (okC n) = b) ∧ wr = w) (fun i _ => ((m : Int) - intOf i).toNat)
        case atStart => exact ⟨0, by omega, rfl, by simpa using hb', rfl⟩
        case round =>
          obtain ⟨k, hk, rfl, hD, rfl⟩ := hrel
          by_cases hlt : k < m
          · have hks : k < xs.length := by have := hN.out; omega
            obtain ⟨a, rfl⟩ := rd_some hR'.out hks
            have c1 := hR'.out.cell a rfl k hks
            have hst := drop_step xs k hks
            obtain ⟨x, hxx⟩ : ∃ x, xs.getD k 0 = x := ⟨_, rfl⟩
            rw [hxx] at c1 hst
            have hD2 := Lib.hid (show (okC n x && (xs.drop (k + 1)).all (okC n)) = b by rw [← hD.out, hst]; rfl)
            have i1 : (k : Int) < (m : Int) := by omega
            clear hst hxx hD
            have hc1 := hcr.out x wr
            cases g : okC n x with
            | true =>
              rw [g] at hc1
              have hc2 := Lib.hid hc1
              have hD3 := Lib.hid (show (xs.drop (k + 1)).all (okC n) = b by rw [← hD2.out, g, Bool.true_and])
              clear g hc1
              go_wp2_with (first
                | (go_at_call 87; ((with_reducible refine (hc2.out).mono ?_); rintro e w1 ⟨rfl, rfl⟩)))
              go_roundw
              case rel => exact ⟨k + 1, by omega, by go_num, hD3, trivial⟩
              case measure => simp [intOf]; omega
            | false =>
              have hbf : b = false := by rw [← hD2.out, g, Bool.false_and]
              subst hbf
              rw [g] at hc1
              have hc2 := Lib.hid hc1
              clear g hc1
              go_wp2_with (first
                | (go_at_call 87; ((with_reducible refine (hc2.out).mono ?_); rintro e w1 ⟨rfl, rfl⟩)))
              go_ret
              exact ⟨rfl, rfl⟩
          · have hk2 : k = m := by omega
            subst hk2
            have hbt : b = true := by rw [← hD.out, List.drop_eq_nil_of_le (by have := hN.out; omega)]; rfl
            subst hbt
            go_wp2
            go_ret
            exact ⟨rfl, rfl⟩
set_option maxRecDepth 100000 in
set_option maxHeartbeats 1000000 in
theorem isBraidS_any (n : Int) (p : Option Addr) (cap : Nat) (xs : List Int) (w : World) (hx : xs.length ≤ 1048576) (hR : Rd w p xs) :
    Calls Try.prog 63 #[.int .i64 n, .slice p xs.length cap] w fun e w' => e = .returned (.bool (brdB n xs)) ∧ w' = w := by
  by_cases h2 : n < 2 ∨ 6 < n
  · have e : brdB n xs = false := by unfold brdB; simp; omega
    rw [e]; clear e
    have h2' := Lib.hid h2
    clear h2
    go_enter Try.func63, Try.ntmps63
    go_wp2_with (first
      | (go_at_call 54; ((with_reducible refine (inS_f n 2 6 _ h2'.out).mono ?_); rintro e w1 ⟨rfl, rfl⟩)))
    go_ret
    exact ⟨rfl, rfl⟩
  · by_cases h60 : 24 < xs.length
    · have e : brdB n xs = false := by unfold brdB; simp; omega
      rw [e]; clear e
      have h60' : (24 : Int) < (xs.length : Int) := by omega
      go_enter Try.func63, Try.ntmps63
      go_wp2_with (first
        | (go_at_call 54; ((with_reducible refine (inS_t n 2 6 _ (by omega) (by omega)).mono ?_); rintro e w1 ⟨rfl, rfl⟩)))
      go_ret
      exact ⟨rfl, rfl⟩
    · have e : brdB n xs = xs.all (okC n) := by
        unfold brdB; rw [show decide (2 ≤ n ∧ n ≤ 6 ∧ xs.length ≤ 24) = true by simp; omega, Bool.true_and]
      obtain ⟨m, hm⟩ : ∃ m, xs.length = m := ⟨_, rfl⟩
      obtain ⟨b, hb⟩ : ∃ b, xs.all (okC n) = b := ⟨_, rfl⟩
      rw [e, hb]
      have hb' := Lib.hid hb
      have hR' := Lib.hid hR
      have hN := Lib.hid hm
      rw [hm] at h60 hx ⊢
      have h60' : ¬ (24 : Int) < (m : Int) := by omega
      clear e hb hR hm
      go_enter Try.func63, Try.ntmps63
      go_wp2_with (first
        | (go_at_call 54; ((with_reducible refine (inS_t n 2 6 _ (by omega) (by omega)).mono ?_); rintro e w1 ⟨rfl, rfl⟩)))
      go_loopw [5] (fun i wr => ∃ k : Nat, k ≤ m ∧ i = .int .i64 k ∧ Hid ((xs.drop k).all (okC n) = b) ∧ wr = w) (fun i _ => ((m : Int) - intOf i).toNat)
      case atStart => exact ⟨0, by omega, rfl, by simpa using hb', rfl⟩
      case round =>
        obtain ⟨k, hk, rfl, hD, rfl⟩ := hrel
        by_cases hlt : k < m
        · have hks : k < xs.length := by have := hN.out; omega
          obtain ⟨a, rfl⟩ := rd_some hR'.out hks
          have c1 := hR'.out.cell a rfl k hks
          have hst := drop_step xs k hks
          obtain ⟨x, hxx⟩ : ∃ x, xs.getD k 0 = x := ⟨_, rfl⟩
          rw [hxx] at c1 hst
          have hD2 := Lib.hid (show (okC n x && (xs.drop (k + 1)).all (okC n)) = b by rw [← hD.out, hst]; rfl)
          have i1 : (k : Int) < (m : Int) := by omega
          clear hst hxx hD
          by_cases x0 : x = 0
          · have hbf : b = false := by rw [← hD2.out]; simp [okC, x0]
            subst hbf x0
            go_wp2
            go_ret
            exact ⟨rfl, rfl⟩
          · have e0 : (x == 0) = false := by simpa using x0
            by_cases g : 1 - n ≤ x ∧ x ≤ n - 1
            · have hD3 := Lib.hid (show (xs.drop (k + 1)).all (okC n) = b by rw [← hD2.out]; unfold okC; rw [show decide (x ≠ 0 ∧ -n < x ∧ x < n) = true by simp; omega, Bool.true_and])
              clear x0
              go_wp2_with (first
                | (go_at_call 54; ((with_reducible refine (inS_t x (1 - n) (n - 1) _ g.1 g.2).mono ?_); rintro e w1 ⟨rfl, rfl⟩)))
              go_roundw
              case rel => exact ⟨k + 1, by omega, by go_num, hD3, trivial⟩
              case measure => simp [intOf]; omega
            · have hbf : b = false := by rw [← hD2.out]; unfold okC; rw [show decide (x ≠ 0 ∧ -n < x ∧ x < n) = false by simp; omega, Bool.false_and]
              subst hbf
              have g' := Lib.hid (show x < 1 - n ∨ n - 1 < x by omega)
              clear g x0
              go_wp2_with (first
                | (go_at_call 54; ((with_reducible refine (inS_f x (1 - n) (n - 1) _ g'.out).mono ?_); rintro e w1 ⟨rfl, rfl⟩)))
              go_ret
              exact ⟨rfl, rfl⟩
        · have hk2 : k = m := by omega
          subst hk2
          have hbt : b = true := by rw [← hD.out, List.drop_eq_nil_of_le (by have := hN.out; omega)]; rfl
          subst hbt
          go_wp2
          go_ret
          exact ⟨rfl, rfl⟩
end Go.Proofs.Ytbibmncepjmgcaa
