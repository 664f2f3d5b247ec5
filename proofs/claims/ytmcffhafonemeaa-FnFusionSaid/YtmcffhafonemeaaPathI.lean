/- The program's numbers of ways. -/
import Derived.Test.YtmcffhafonemeaaPathM
import Derived.Test.YtmcffhafonemeaaSpecA
import Derived.IntWalk
namespace Go.Proofs.Ytmcffhafonemeaa
open Go.RowKit
set_option linter.unusedVariables false
set_option maxRecDepth 100000 in
theorem pathsI_bad (z n k : Int) (w : World) (h : ¬ (1 ≤ z ∧ z ≤ 100 ∧ 0 ≤ n ∧ n ≤ 40 ∧ 0 ≤ k ∧ k < z)) :
    Calls Try.prog 20 #[.int .i64 z, .int .i64 n, .int .i64 k] w fun e w' => e = .returned (.tuple #[.int .i64 0, .int .i64 2]) ∧ w' = w := by
  by_cases h1 : z < 1
  · go_enter Try.func20, Try.ntmps20
    go_wp2
    go_ret2
    exact ⟨rfl, rfl⟩
  · by_cases h2 : 100 < z
    · go_enter Try.func20, Try.ntmps20
      go_wp2
      go_ret2
      exact ⟨rfl, rfl⟩
    · by_cases h3 : n < 0
      · go_enter Try.func20, Try.ntmps20
        go_wp2
        go_ret2
        exact ⟨rfl, rfl⟩
      · by_cases h4 : 40 < n
        · go_enter Try.func20, Try.ntmps20
          go_wp2
          go_ret2
          exact ⟨rfl, rfl⟩
        · by_cases h5 : k < 0
          · go_enter Try.func20, Try.ntmps20
            go_wp2
            go_ret2
            exact ⟨rfl, rfl⟩
          · have h6 : z ≤ k := by omega
            clear h
            go_enter Try.func20, Try.ntmps20
            go_wp2
            go_ret2
            exact ⟨rfl, rfl⟩
theorem row_cell {w : World} {g n : Nat} {f : Nat → Int} (h : Own w g (icells (rowf n f)) 2) (j : Nat) (hj : j < n) : w.cell? ⟨g, j, none⟩ = some (.int .i64 (f j)) := by
  rw [h.cell, icells_get _ _ (by rw [rowf_len]; exact hj), rowf_get _ _ _ hj]
set_option maxRecDepth 100000 in
set_option maxHeartbeats 1000000 in
theorem pathsI_ok (Z N K : Nat) (w : World) (h1 : 1 ≤ Z) (h2 : Z ≤ 100) (h3 : N ≤ 40) (h4 : K < Z) :
    Calls Try.prog 20 #[.int .i64 Z, .int .i64 N, .int .i64 K] w fun e w' => e = .returned (.tuple #[.int .i64 (pth Z N (K + 1)), .int .i64 0]) ∧ Below w.heap.size w w' := by
  have hmk : ∀ w : World, (Instr.makeSlice 32 (.int .i64 ((Z : Int) + 2)) (.int .i64 ((Z : Int) + 2))).run Try.prog w = .ok (.slice (some ⟨w.heap.size, 0, none⟩) (Z + 2) (Z + 2)) (w.alloc (.cells (icells (List.replicate (Z + 2) 0)) 2)) := by
    intro w
    rw [show ((Z : Int) + 2) = ((Z + 2 : Nat) : Int) from rfl]; exact makeI (Z + 2) (by omega) w
  have hw0 := Lib.hid (wI_start Z)
  have hn0 := Lib.hid (nI_start Z)
  have hn1 := Lib.hid (fun t => nI_end Z t h1)
  have hO1 := Lib.hid (show Own (w.alloc (.cells ((icells (List.replicate (Z + 2) 0)).setIfInBounds 1 (.int .i64 1)) 2)) w.heap.size (icells (rowf (Z + 2) (wI Z 0))) 2 by
    rw [icells_set, hw0.out]; exact Own.new _ _ _)
  clear hw0
  have hc0 := icells_get (List.replicate (Z + 2) 0) 1 (by simp)
  go_enter Try.func20, Try.ntmps20
  go_wp2
  go_loopw [8, 40] (fun v i wr => ∃ (t g : Nat), t ≤ N ∧ i = .int .i64 t ∧ v = .slice (some ⟨g, 0, none⟩) (Z + 2) (Z + 2) ∧ w.heap.size ≤ g ∧ Own wr g (icells (rowf (Z + 2) (wI Z t))) 2 ∧ Below w.heap.size w wr) (fun _ i _ => ((N : Int) - intOf i).toNat)
  case atStart => exact ⟨0, w.heap.size, by omega, rfl, rfl, Nat.le_refl _, hO1.out, (Below.refl _ _).alloc (Nat.le_refl _) _⟩
  case round =>
    clear hO1
    obtain ⟨t, g, ht, rfl, rfl, hg, hO, hB⟩ := hrel
    by_cases hlt : t < N
    · have hO2 := Lib.hid (show Own (wr.alloc (.cells (icells (List.replicate (Z + 2) 0)) 2)) wr.heap.size (icells (rowf (Z + 2) (nI Z t 1))) 2 by
        rw [hn0.out t]; exact Own.new _ _ _)
      have hO3 := Lib.hid (hO.alloc (.cells (icells (List.replicate (Z + 2) 0)) 2))
      have hgl := hO.lt
      have hB2 := Lib.hid (hB.alloc hB.size (.cells (icells (List.replicate (Z + 2) 0)) 2))
      have hsz := hB.size
      obtain ⟨g2, hg2⟩ : ∃ g2, wr.heap.size = g2 := ⟨_, rfl⟩
      rw [hg2] at hO2 hgl hsz
      have hp := Lib.hid (fun j => pth_le Z t j (by omega))
      clear hO hB
      go_wp2
      clear hg2 hmk
      generalize wr.alloc (.cells (icells (List.replicate (Z + 2) 0)) 2) = w2 at *
      go_loopw [10] (fun i wr => ∃ (j : Nat), j ≤ Z ∧ i = .int .i64 ((j : Int) + 1) ∧ Own wr g (icells (rowf (Z + 2) (wI Z t))) 2 ∧ Own wr g2 (icells (rowf (Z + 2) (nI Z t (j + 1)))) 2 ∧ Below w.heap.size w wr) (fun i _ => ((Z : Int) + 1 - intOf i).toNat)
      case atStart => exact ⟨0, by omega, rfl, hO3.out, hO2.out, hB2.out⟩
      case round =>
        clear hO3 hO2 hB2
        obtain ⟨j, hj, rfl, hO, hN, hB⟩ := hrel
        by_cases hjl : j < Z
        · have c1 := row_cell hO j (by omega)
          have c2 := row_cell hO (j + 2) (by omega)
          have c3 := row_cell hN (j + 1) (by omega)
          have f3 := hN.free (j + 1)
          have b1 := hp.out j
          have b2 := hp.out (j + 2)
          have hN2 := Lib.hid (show Own (wr.setCell ⟨g2, j + 1, none⟩ (.int .i64 (pth Z t j + pth Z t (j + 2)))) g2 (icells (rowf (Z + 2) (nI Z t (j + 2)))) 2 by
            have := hN.set (j + 1) (.int .i64 (pth Z t j + pth Z t (j + 2)))
            rw [icells_set] at this
            have e := nI_set Z t (j + 1) (by omega) (by omega)
            rw [Nat.add_sub_cancel] at e
            rw [e] at this; exact this)
          have hO4 := Lib.hid (Own.other hO (a := ⟨g2, j + 1, none⟩) (by simp; omega) (.int .i64 (pth Z t j + pth Z t (j + 2))))
          have hB4 := Lib.hid (hB.setCell (p := ⟨g2, j + 1, none⟩) (by simp; omega) (.int .i64 (pth Z t j + pth Z t (j + 2))))
          clear hO hN hB
          unfold wI at c1 c2
          generalize pth Z t j = x at *
          generalize pth Z t (j + 2) = y at *
          go_wp2
          have e1 : IntKind.i64.wrap ((j : Int) + 1 - 1) = j := by rw [IntWalk.i64_in _ (by omega)]; omega
          have e2 : IntKind.i64.wrap ((j : Int) + 1 + 1) = (j : Int) + 2 := by rw [IntWalk.i64_in _ (by omega)]; omega
          have e3 : IntKind.i64.wrap (x + y) = x + y := IntWalk.i64_in _ (by omega)
          have n1 : ((j : Int) + 1).toNat = j + 1 := by omega
          have n2 : ((j : Int) + 2).toNat = j + 2 := by omega
          go_region
          clear e1 e2 e3 n1 n2
          go_wp2
          go_roundw
          case rel => exact ⟨j + 1, by omega, by go_num, hO4.out.drewN 1, hN2.out.drewN 1, Below.drewN hB4.out 1⟩
          case measure => simp [intOf]; omega
        · have : j = Z := by omega
          subst this
          have hN3 := Lib.hid (show Own wr g2 (icells (rowf (j + 2) (wI j (t + 1)))) 2 by rw [← hn1.out t]; exact hN)
          go_wp2
          go_roundw
          case rel => exact ⟨t + 1, g2, by omega, by go_num, rfl, hsz, hN3.out, hB⟩
          case measure => simp [intOf]; omega
    · have : t = N := by omega
      subst this
      have c1 := row_cell hO (K + 1) (by omega)
      unfold wI at c1
      go_wp2
      go_ret2
      exact ⟨rfl, hB⟩
end Go.Proofs.Ytmcffhafonemeaa
