/- The model's numbers of ways. -/
import Derived.Test.YtmcffhafonemeaaPathI
namespace Go.Proofs.Ytmcffhafonemeaa
open Go.RowKit
set_option linter.unusedVariables false
set_option maxRecDepth 100000 in
theorem pathsS_bad (z n k : Int) (w : World) (h : ¬ (1 ≤ z ∧ z ≤ 100 ∧ 0 ≤ n ∧ n ≤ 40 ∧ 0 ≤ k ∧ k < z)) :
    Calls Try.prog 21 #[.int .i64 z, .int .i64 n, .int .i64 k] w fun e w' => e = .returned (.tuple #[.int .i64 0, .int .i64 2]) ∧ w' = w := by
  by_cases h1 : 1 ≤ z ∧ z ≤ 100
  · obtain ⟨h1, h1'⟩ := h1
    by_cases h2 : 0 ≤ n ∧ n ≤ 40
    · obtain ⟨h2, h2'⟩ := h2
      have h3 : k < 0 ∨ z - 1 < k := by omega
      clear h
      go_enter Try.func21, Try.ntmps21
      go_wp2_with (first
        | (go_at_call 42; ((with_reducible refine (inS_t z 1 100 _ h1 h1').mono ?_); rintro e w1 ⟨rfl, rfl⟩))
        | (go_at_call 42; ((with_reducible refine (inS_t n 0 40 _ h2 h2').mono ?_); rintro e w1 ⟨rfl, rfl⟩))
        | (go_at_call 42; ((with_reducible refine (inS_f k 0 (z - 1) _ h3).mono ?_); rintro e w1 ⟨rfl, rfl⟩)))
      go_ret2
      exact ⟨rfl, rfl⟩
    · have h3 : n < 0 ∨ 40 < n := by omega
      clear h h2
      go_enter Try.func21, Try.ntmps21
      go_wp2_with (first
        | (go_at_call 42; ((with_reducible refine (inS_t z 1 100 _ h1 h1').mono ?_); rintro e w1 ⟨rfl, rfl⟩))
        | (go_at_call 42; ((with_reducible refine (inS_f n 0 40 _ h3).mono ?_); rintro e w1 ⟨rfl, rfl⟩)))
      go_ret2
      exact ⟨rfl, rfl⟩
  · have h3 : z < 1 ∨ 100 < z := by omega
    clear h h1
    go_enter Try.func21, Try.ntmps21
    go_wp2_with (first
      | (go_at_call 42; ((with_reducible refine (inS_f z 1 100 _ h3).mono ?_); rintro e w1 ⟨rfl, rfl⟩)))
    go_ret2
    exact ⟨rfl, rfl⟩
set_option maxRecDepth 100000 in
set_option maxHeartbeats 1000000 in
theorem pathsS_ok (Z N K : Nat) (w : World) (h1 : 1 ≤ Z) (h2 : Z ≤ 100) (h3 : N ≤ 40) (h4 : K < Z) :
    Calls Try.prog 21 #[.int .i64 Z, .int .i64 N, .int .i64 K] w fun e w' => e = .returned (.tuple #[.int .i64 (pth Z N (K + 1)), .int .i64 0]) ∧ Below w.heap.size w w' := by
  have hmk := makeI Z (by omega)
  have hw0 := Lib.hid (wS_start Z h1)
  have hn0 := Lib.hid (nS_start Z)
  have hnf := Lib.hid (nS_first Z)
  have hO1 := Lib.hid (show Own (w.alloc (.cells ((icells (List.replicate Z 0)).setIfInBounds 0 (.int .i64 1)) 2)) w.heap.size (icells (rowf Z (wS Z 0))) 2 by
    rw [icells_set, hw0.out]; exact Own.new _ _ _)
  clear hw0
  have hc0 := icells_get (List.replicate Z 0) 0 (by simp; omega)
  have a1 : (1 : Int) ≤ Z := by omega
  have a2 : (Z : Int) ≤ 100 := by omega
  have a3 : (0 : Int) ≤ N := by omega
  have a4 : (N : Int) ≤ 40 := by omega
  have a5 : (0 : Int) ≤ K := by omega
  have a6 : (K : Int) ≤ (Z : Int) - 1 := by omega
  have a7 : (0 : Int) < Z := by omega
  go_enter Try.func21, Try.ntmps21
  go_wp2_with (first
    | (go_at_call 42; ((with_reducible refine (inS_t Z 1 100 _ a1 a2).mono ?_); rintro e w1 ⟨rfl, rfl⟩))
    | (go_at_call 42; ((with_reducible refine (inS_t N 0 40 _ a3 a4).mono ?_); rintro e w1 ⟨rfl, rfl⟩))
    | (go_at_call 42; ((with_reducible refine (inS_t K 0 ((Z : Int) - 1) _ a5 a6).mono ?_); rintro e w1 ⟨rfl, rfl⟩)))
  go_loopw [8, 1] (fun v i wr => ∃ (t g : Nat), t ≤ N ∧ i = .int .i64 ((N - t : Nat) : Int) ∧ v = .slice (some ⟨g, 0, none⟩) Z Z ∧ w.heap.size ≤ g ∧ Own wr g (icells (rowf Z (wS Z t))) 2 ∧ Below w.heap.size w wr) (fun _ i _ => (intOf i).toNat)
  case atStart => exact ⟨0, w.heap.size, by omega, rfl, rfl, Nat.le_refl _, hO1.out, (Below.refl _ _).alloc (Nat.le_refl _) _⟩
  case round =>
    clear hO1
    obtain ⟨t, g, ht, rfl, rfl, hg, hO, hB⟩ := hrel
    by_cases hlt : t < N
    · have hO2 := Lib.hid (show Own (wr.alloc (.cells (icells (List.replicate Z 0)) 2)) wr.heap.size (icells (rowf Z (nS Z t 0))) 2 by
        rw [hn0.out t]; exact Own.new _ _ _)
      have hO3 := Lib.hid (hO.alloc (.cells (icells (List.replicate Z 0)) 2))
      have hgl := hO.lt
      have hB2 := Lib.hid (hB.alloc hB.size (.cells (icells (List.replicate Z 0)) 2))
      have hsz := hB.size
      obtain ⟨g2, hg2⟩ : ∃ g2, wr.heap.size = g2 := ⟨_, rfl⟩
      rw [hg2] at hO2 hgl hsz
      have hp := Lib.hid (fun j => pth_le Z t j (by omega))
      have hns := Lib.hid (fun k j => nS_le Z t k j (by omega))
      have hms := Lib.hid (fun k j => mS_le Z t k j (by omega))
      have e0 : ((N - t : Nat) : Int) - 1 = ((N - (t + 1) : Nat) : Int) := by omega
      have i0 : 0 < N - t := by omega
      have i1 : N - t ≤ 40 := by omega
      have hE0 := Lib.hid e0
      clear e0
      generalize N - t = M at *
      clear hO hB
      go_wp2
      clear hg2 hmk
      generalize wr.alloc (.cells (icells (List.replicate Z 0)) 2) = w2 at *
      go_loopw [10] (fun i wr => ∃ (j : Nat), j ≤ Z ∧ i = .int .i64 (j : Int) ∧ Own wr g (icells (rowf Z (wS Z t))) 2 ∧ Own wr g2 (icells (rowf Z (if j < Z then nS Z t j else wS Z (t + 1)))) 2 ∧ Below w.heap.size w wr) (fun i _ => ((Z : Int) - intOf i).toNat)
      case atStart => exact ⟨0, by omega, rfl, hO3.out, by rw [if_pos (show 0 < Z by omega)]; exact hO2.out, hB2.out⟩
      case round =>
        clear hO3 hO2 hB2
        obtain ⟨j, hj, rfl, hO, hN, hB⟩ := hrel
        by_cases hjl : j < Z
        ·
          cases j with
          | zero =>
            rw [if_pos hjl, hnf.out t] at hN
            by_cases hj2 : 0 + 1 < Z
            · have hM := hN
              have c1 := row_cell hO 0 (by omega)
              have c2 := row_cell hM (0 + 1) (by omega)
              have f2 := hM.free (0 + 1)
              have b1 := hp.out (0 + 1)
              have b2 := hms.out (0) (0 + 1)
              have hM2 := Lib.hid (show Own ((wr.setCell ⟨g2, 0 + 1, none⟩ (.int .i64 (mS Z t (0) (0 + 1) + pth Z t (0 + 1)))).drew) g2 (icells (rowf Z (if 0 + 1 < Z then nS Z t (0 + 1) else wS Z (t + 1)))) 2 by
                have := hM.set (0 + 1) (.int .i64 (mS Z t (0) (0 + 1) + pth Z t (0 + 1)))
                rw [icells_set, nS_up Z t (0) (by omega)] at this
                rw [if_pos hj2]; exact this.drewN 1)
              have hO4 := Lib.hid ((Own.other hO (a := ⟨g2, 0 + 1, none⟩) (by simp; omega) (.int .i64 (mS Z t (0) (0 + 1) + pth Z t (0 + 1)))).drewN 1)
              have hB4 := Lib.hid (Below.drewN (hB.setCell (p := ⟨g2, 0 + 1, none⟩) (by simp; omega) (.int .i64 (mS Z t (0) (0 + 1) + pth Z t (0 + 1)))) 1)
              unfold wS at c1
              clear hO hM hB
              generalize mS Z t (0) (0 + 1) = x at *
              generalize pth Z t (0 + 1) = y at *
              have e1 : IntKind.i64.wrap ((0 : Int) + 1) = 1 := by decide
              have e3 : IntKind.i64.wrap (x + y) = x + y := IntWalk.i64_in _ (by omega)
              go_wp2
              go_region
              clear e1 e3
              go_wp2
              go_roundw
              case rel => exact ⟨0 + 1, by omega, by go_num, hO4.out, hM2.out, hB4.out⟩
              case measure => simp [intOf]; omega
            · obtain rfl : Z = 1 := by omega
              have hN3 := Lib.hid (show Own wr g2 (icells (rowf 1 (if 0 + 1 < 1 then nS 1 t (0 + 1) else wS 1 (t + 1)))) 2 by
                rw [if_neg (by omega), ← mS_last 1 t (by omega)]; exact hN)
              go_wp2
              go_roundw
              case rel => exact ⟨0 + 1, by omega, by go_num, hO, hN3.out, hB⟩
              case measure => simp [intOf]
          | succ i =>
            rw [if_pos hjl] at hN
            have c1 := row_cell hO (i + 1) (by omega)
            have c2 := row_cell hN i (by omega)
            have f2 := hN.free i
            have b1 := hp.out (i + 1 + 1)
            have b2 := hns.out (i + 1) i
            have hM3 := Lib.hid (show Own ((wr.setCell ⟨g2, i, none⟩ (.int .i64 (nS Z t (i + 1) i + pth Z t (i + 1 + 1)))).drew) g2 (icells (rowf Z (mS Z t (i + 1)))) 2 by
              have := hN.set i (.int .i64 (nS Z t (i + 1) i + pth Z t (i + 1 + 1)))
              have e := nS_down Z t (i + 1) (by omega) (by omega)
              rw [Nat.add_sub_cancel] at e
              rw [icells_set, e] at this
              exact this.drewN 1)
            have hO5 := Lib.hid ((Own.other hO (a := ⟨g2, i, none⟩) (by simp; omega) (.int .i64 (nS Z t (i + 1) i + pth Z t (i + 1 + 1)))).drewN 1)
            have hB5 := Lib.hid (Below.drewN (hB.setCell (p := ⟨g2, i, none⟩) (by simp; omega) (.int .i64 (nS Z t (i + 1) i + pth Z t (i + 1 + 1)))) 1)
            unfold wS at c1
            clear hO hN hB
            generalize nS Z t (i + 1) i = x at *
            generalize pth Z t (i + 1 + 1) = y at *
            have e1 : IntKind.i64.wrap ((i : Int) + 1 - 1) = i := by rw [IntWalk.i64_in _ (by omega)]; omega
            have e3 : IntKind.i64.wrap (x + y) = x + y := IntWalk.i64_in _ (by omega)
            have n1 : ((i : Int) + 1).toNat = i + 1 := by omega
            have q1 : ((i + 1 : Nat) : Int) = (i : Int) + 1 := rfl
            rw [q1]
            clear q1
            go_wp2
            go_region
            clear e1 e3 n1 c1 c2 f2 b1 b2
            have hO6 : Hid (Own ((wr.setCell ⟨g2, i, none⟩ (.int .i64 (x + y))).drew) g (icells (rowf Z (wS Z t))) 2) := Lib.hid hO5.out
            have hB6 : Hid (Below w.heap.size w ((wr.setCell ⟨g2, i, none⟩ (.int .i64 (x + y))).drew)) := Lib.hid hB5.out
            clear hO5 hB5
            generalize (wr.setCell ⟨g2, i, none⟩ (.int .i64 (x + y))).drew = w3 at *
            have hO := hO6.out
            have hM := hM3.out
            have hB := hB6.out
            clear hO6 hM3 hB6
            by_cases hj2 : i + 2 < Z
            · have c1 := row_cell hO (i + 1) (by omega)
              have c2 := row_cell hM (i + 2) (by omega)
              have f2 := hM.free (i + 2)
              have b1 := hp.out (i + 1 + 1)
              have b2 := hms.out (i + 1) (i + 2)
              have hM2 := Lib.hid (show Own ((w3.setCell ⟨g2, i + 2, none⟩ (.int .i64 (mS Z t (i + 1) (i + 2) + pth Z t (i + 1 + 1)))).drew) g2 (icells (rowf Z (if i + 1 + 1 < Z then nS Z t (i + 1 + 1) else wS Z (t + 1)))) 2 by
                have := hM.set (i + 2) (.int .i64 (mS Z t (i + 1) (i + 2) + pth Z t (i + 1 + 1)))
                have e := nS_up Z t (i + 1) (by omega)
                rw [show i + 1 + 1 = i + 2 from rfl] at e
                rw [icells_set, show i + 1 + 1 = i + 2 from rfl, e] at this
                rw [if_pos hj2]; exact this.drewN 1)
              have hO4 := Lib.hid ((Own.other hO (a := ⟨g2, i + 2, none⟩) (by simp; omega) (.int .i64 (mS Z t (i + 1) (i + 2) + pth Z t (i + 1 + 1)))).drewN 1)
              have hB4 := Lib.hid (Below.drewN (hB.setCell (p := ⟨g2, i + 2, none⟩) (by simp; omega) (.int .i64 (mS Z t (i + 1) (i + 2) + pth Z t (i + 1 + 1)))) 1)
              unfold wS at c1
              clear hO hM hB
              generalize mS Z t (i + 1) (i + 2) = x2 at *
              generalize pth Z t (i + 1 + 1) = y2 at *
              have e1 : IntKind.i64.wrap ((i : Int) + 1 + 1) = (i : Int) + 2 := by rw [IntWalk.i64_in _ (by omega)]; omega
              have e3 : IntKind.i64.wrap (x2 + y2) = x2 + y2 := IntWalk.i64_in _ (by omega)
              have n1 : ((i : Int) + 1).toNat = i + 1 := by omega
              have n2 : ((i : Int) + 2).toNat = i + 2 := by omega
              go_wp2
              go_region
              clear e1 e3 n1 n2
              go_wp2
              go_roundw
              case rel => exact ⟨i + 1 + 1, by omega, by go_num, hO4.out, hM2.out, hB4.out⟩
              case measure => simp [intOf]; omega
            · have hZ : Z = i + 1 + 1 := by omega
              have hN3 := Lib.hid (show Own w3 g2 (icells (rowf Z (if i + 1 + 1 < Z then nS Z t (i + 1 + 1) else wS Z (t + 1)))) 2 by
                rw [if_neg (by omega), ← mS_last Z t (by omega)]
                rw [show Z - 1 = i + 1 by omega]; exact hM)
              go_wp2
              go_roundw
              case rel => exact ⟨i + 1 + 1, by omega, by go_num, hO, hN3.out, hB⟩
              case measure => simp [intOf]; omega
        · have : j = Z := by omega
          subst this
          rw [if_neg hjl] at hN
          go_wp2
          go_roundw
          case rel => exact ⟨t + 1, g2, by omega, by rw [hE0.out], rfl, hsz, hN, hB⟩
          case measure => simp [intOf]; omega
    · have : t = N := by omega
      subst this
      rw [Nat.sub_self]
      have c1 := row_cell hO K h4
      unfold wS at c1
      go_wp2
      go_ret2
      exact ⟨rfl, hB⟩
end Go.Proofs.Ytmcffhafonemeaa
