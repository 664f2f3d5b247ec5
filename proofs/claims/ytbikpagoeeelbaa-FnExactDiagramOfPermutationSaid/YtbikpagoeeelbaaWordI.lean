/- Contracts of the program's words. -/
import Derived.Test.YtbikpagoeeelbaaWordM
import Derived.Test.YtbikpagoeeelbaaMulI
namespace Go.Proofs.Ytbikpagoeeelbaa
open Go.RowKit
set_option linter.unusedVariables false
set_option maxRecDepth 100000 in
set_option maxHeartbeats 1000000 in
theorem valueI_any (n : Int) (p : Option Addr) (cap : Nat) (xs : List Int) (w : World) (h1 : 1 ≤ n) (h8 : n ≤ 8) (hx : xs.length ≤ 1000) (hok : ∀ x ∈ xs, 0 ≤ x ∧ x ≤ n - 2) (hR : Rd w p xs) :
    Calls Try.prog 60 #[.int .i64 n, .slice p xs.length cap] w fun e w' => e = .returned (.tuple #[.agg (dcells n (valW n xs).1), .int .i64 (valW n xs).2]) ∧ Below w.heap.size w w' := by
  obtain ⟨m, hm⟩ : ∃ m, xs.length = m := ⟨_, rfl⟩
  have hR' := Lib.hid hR
  have hN := Lib.hid hm
  have hOK := Lib.hid hok
  have h1l := Lib.hid (oneL_len n n.toNat)
  have hun := Lib.hid (fun w => unitI_ok n w h1 h8)
  obtain ⟨V, hV⟩ : ∃ V, valW n xs = V := ⟨_, rfl⟩
  have hVV := Lib.hid hV
  rw [hV]
  rw [hm] at hx ⊢
  clear hR hm hok hV
  go_enter Try.func60, Try.ntmps60
  go_wp2_with (first
    | (go_at_call 74; ((with_reducible refine (hun.out _).mono ?_); rintro e w1 ⟨rfl, hB1⟩))
    | (refine wpList_store_own rfl 43 _ _ rfl _ _ rfl rfl 43 _ (Own.new w1 _ _) (row26 (d17 _ _ (h1l.out))) (z_eq (d17 _ _ h1l.out)) (dcells_one _ _) ?_; intro w2 hO2 hN2))
  have b0 : Below w.heap.size w (w.alloc (.cells zcells 43)) := (Below.refl _ _).alloc (Nat.le_refl _) _
  have b1 := b0.trans (hB1.mono b0.size)
  have hsz := hB1.size
  have hsz' : w.heap.size + 1 ≤ w1.heap.size := by simpa using hsz
  have hB2 : Below w.heap.size w w2 := (b1.alloc b1.size _).trans (hN2.below.mono b1.size)
  have hZ2 : Own w2 w.heap.size zcells 43 := (((Own.new w _ _).below hB1 (by simp)).alloc _).only hN2 (by omega)
  clear b0 b1 hN2 hun hB1 hsz
  obtain ⟨g, hg⟩ : ∃ g, w1.heap.size = g := ⟨_, rfl⟩
  rw [hg] at hO2 hsz' ⊢
  go_wp2
  go_loopw [8, 22] (fun t i wr => ∃ k : Nat, k ≤ m ∧ i = .int .i64 k ∧ t = .int .i64 (valW n (xs.take k)).2 ∧ Own wr g (dcells n (valW n (xs.take k)).1) 43 ∧ Own wr w.heap.size zcells 43 ∧ Below w.heap.size w wr) (fun _ i _ => ((m : Int) - intOf i).toNat)
  case atStart => exact ⟨0, by omega, rfl, rfl, hO2, hZ2, hB2⟩
  case round =>
    clear hO2 hZ2 hB2
    obtain ⟨k, hk, rfl, rfl, hO, hZ, hB⟩ := hrel
    have hok2 := valW_ok n (xs.take k) h1 h8 (fun x hx => hOK.out x (List.mem_of_mem_take hx))
    have htl : (xs.take k).length = k := by rw [List.length_take]; have := hN.out; omega
    rw [htl] at hok2
    by_cases hlt : k < m
    · have hks : k < xs.length := by have := hN.out; omega
      obtain ⟨a, rfl⟩ := rd_some hR'.out hks
      have c1 := (hR'.out.below hB).cell a rfl k hks
      have hst := Lib.hid (valW_take n xs k hks)
      obtain ⟨x, hxx⟩ : ∃ x, xs.getD k 0 = x := ⟨_, rfl⟩
      have hxb := hOK.out x (by rw [← hxx, List.getD_eq_getElem?_getD, List.getElem?_eq_getElem hks]; exact List.getElem_mem hks)
      rw [hxx] at c1 hst
      obtain ⟨x0, x2⟩ := hxb
      have n2 : 2 ≤ n := by omega
      have hgen := Lib.hid (fun w => genI_ok n x w n2 h8 x0 x2)
      have hge := cup_ok n x n2 h8 x0 x2
      have hlg := Lib.hid (cupL_len n x)
      obtain ⟨ms, t, hmt⟩ : ∃ ms t, valW n (xs.take k) = (ms, t) := ⟨_, _, rfl⟩
      rw [hmt] at hO hok2 hst ⊢
      dsimp only at hO hok2 ⊢
      obtain ⟨q1, q2, q3, q4, q5⟩ := hok2
      have hpr := Lib.hid (fun w => prodI_any n ms (cupL n x) q1 hlg.out q2 hge.1 q3 hge.2 w)
      have hpl := Lib.hid (prodL_len n (mate ms) (mate (cupL n x)))
      have hst2 := Lib.hid (show valW n (xs.take (k + 1)) = (prodL n (mate ms) (mate (cupL n x)), t + loopsP n (mate ms) (mate (cupL n x))) from hst.out)
      have lb := loops_bd n (mate ms) (mate (cupL n x)) h1 h8
      generalize prodL n (mate ms) (mate (cupL n x)) = pr at hpr hpl hst2
      generalize loopsP n (mate ms) (mate (cupL n x)) = lc at hpr hst2 lb
      generalize cupL n x = ge at hgen hlg hpr
      obtain ⟨l0, l8⟩ := lb
      have q4' : 0 ≤ t := q4
      have q5' : t ≤ 8 * (k : Int) := q5
      have hml := Lib.hid q1
      have i1 : (k : Int) < (m : Int) := by omega
      have glt := hO.lt
      have hsz := hB.size
      clear q1 q2 q3 q4 q5 hge hxx hmt htl hst
      go_wp2_with (first
        | (go_at_call 75; ((with_reducible refine (hgen.out _).mono ?_); rintro e w3 ⟨rfl, hB3⟩))
        | (refine wpList_store_own rfl 43 _ _ rfl _ _ rfl rfl 43 _ (Own.new w3 _ _) (row26 (d17 _ _ (hlg.out))) (z_eq (d17 _ _ hlg.out)) (dcells_one _ _) ?_; intro w4 hO4 hN4)
        | (refine wpList_load_row rfl 43 _ rfl _ rfl 43 _ (0, 0) _ (((hO.below hB3 glt).alloc _).only hN4 (Nat.ne_of_lt (Nat.lt_of_lt_of_le glt hB3.size))) Try.underlying43 rfl (row26 (d17 _ _ (hml.out))) ?_)
        | (refine wpList_load_row rfl 43 _ rfl _ rfl 43 _ (0, 0) _ (hO4) Try.underlying43 rfl (row26 (d17 _ _ (hlg.out))) ?_)
        | (go_at_call 76; ((with_reducible refine (hpr.out _).mono ?_); rintro e w5 ⟨rfl, hB5⟩))
        | (refine wpList_store_own rfl 43 _ _ rfl _ _ rfl rfl 43 _ (Own.new w5 _ _) (row26 (d17 _ _ (hpl.out))) (z_eq (d17 _ _ hpl.out)) (dcells_one _ _) ?_; intro w6 hO6 hN6)
        | (refine wpList_load_row rfl 43 _ rfl _ rfl 43 _ (0, 0) _ (hO6) Try.underlying43 rfl (row26 (d17 _ _ (hpl.out))) ?_)
        | (refine wpList_store_own rfl 43 _ _ rfl _ _ rfl rfl 43 _ ((((((hO.below hB3 glt).alloc _).only hN4 (Nat.ne_of_lt (Nat.lt_of_lt_of_le glt hB3.size))).below hB5 (by have := hB3.size; have := hN4.size; simp at this; omega)).alloc _).only hN6 (by have := hB3.size; have := hN4.size; have := hB5.size; simp at *; omega)) (row26 (d17 _ _ (hpl.out))) (dd _ _ _ _ hml.out hpl.out) (dcells_one _ _) ?_; intro w7 hO7 hN7))
      go_roundw
      case rel =>
        have s3 := hB3.size
        have s4 := hN4.size
        have s5 := hB5.size
        have s6 := hN6.size
        simp at s4 s6
        have hZ7 : Own w7 w.heap.size zcells 43 := ((((((hZ.below hB3 hZ.lt).alloc _).only hN4 (by have := hZ.lt; omega)).below hB5 (by have := hZ.lt; omega)).alloc _).only hN6 (by have := hZ.lt; omega)).only hN7 (by omega)
        have b3 := hB.trans (hB3.mono hsz)
        have b4 := (b3.alloc b3.size _).trans (hN4.below.mono b3.size)
        have b5 := b4.trans (hB5.mono b4.size)
        have b6 := (b5.alloc b5.size _).trans (hN6.below.mono b5.size)
        exact ⟨k + 1, by omega, by go_num, by rw [hst2.out], by rw [hst2.out]; exact hO7, hZ7, b6.trans (hN7.below.mono (by omega))⟩
      case measure => simp [intOf]; omega
    · have hk2 : k = m := by omega
      subst hk2
      have e : valW n (xs.take k) = V := by rw [List.take_of_length_le (by have := hN.out; omega)]; exact hVV.out
      rw [e] at hO hok2 ⊢
      obtain ⟨q1, q2, q3, q4, q5⟩ := hok2
      have hml := Lib.hid q1
      clear q1 q2 q3 e
      go_wp2_with (first
        | (refine wpList_load_row rfl 43 _ rfl _ rfl 43 _ (0, 0) _ (hO) Try.underlying43 rfl (row26 (d17 _ _ (hml.out))) ?_)
        | (refine wpList_store_own rfl 43 _ _ rfl _ _ rfl rfl 43 _ (hZ) (row26 (d17 _ _ (hml.out))) (z_eq (d17 _ _ hml.out)) (dcells_one _ _) ?_; intro w7 hO7 hN7))
      refine bodyPost_ret (v := .tuple #[.agg (dcells n V.1), .int .i64 V.2]) (results_row_tmp rfl _ _ _ _ _ (0, 0) _ rfl (hO7) Try.underlying43 rfl (row26 (d17 _ _ (hml.out))) _ rfl) rfl (⟨rfl, hB.trans (hN7.below.mono (by omega))⟩)
end Go.Proofs.Ytbikpagoeeelbaa
