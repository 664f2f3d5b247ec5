/- The contract of the model's parts of points with labels. -/
import Derived.Test.YtlgdeciikliihaaLawPw
namespace Go.Proofs.Ytlgdeciikliihaa
open Go.RowKit
set_option linter.unusedVariables false
set_option maxRecDepth 100000 in
set_option maxHeartbeats 2000000 in
theorem toldS_any (b o c N : Nat) (n : Int) (xs : List Int) (w : World) (hl : xs.length = N) (h8 : N ≤ 8) (hm : (N : Int) = 2 * n) (hb : b < w.heap.size) (hR : Rdf (Value.int .i64) w b o xs) :
    Calls Try.prog 52 #[.int .i64 n, .slice (some ⟨b, o, none⟩) N c] w fun e w' => e = .returned (.agg (dcells n (told xs))) ∧ Below w.heap.size w w' := by
  have hN := Lib.hid hl
  have hR' := Lib.hid hR
  have hm' : 2 * n = (N : Int) := by omega
  clear hR hl hm
  go_enter Try.func52, Try.ntmps52
  go_wp2_with (first
    | (refine wpList_build_of rfl 31 #[(0, .tmp 10)] rfl (dcells n zer8) ?_ ?_; (exact builtP1 n))
    | (refine wpList_store_own rfl 31 _ _ rfl _ _ rfl rfl 31 _ (Own.at _ _ _ (by first | rfl | simp)) (rowP (d9 _ _ (zlen8))) (by rw [d9 _ _ zlen8]; rfl) (dcells_one _ _) ?_; intro w1 hO1 hN1))
  have hR1 : Own w1 w.heap.size zp 31 := ((Own.new _ _ _).alloc _).only hN1 (by simp <;> omega)
  have hB1 : Below w.heap.size w w1 := (((Below.refl _ _).alloc (Nat.le_refl _) _).alloc (by simp) _).trans (hN1.below.mono (by simp <;> omega))
  clear hN1
  go_loopw [6, 7] (fun p i wr => ∃ k : Nat, k ≤ N ∧ i = .int .i64 k ∧ p = .int .u8 ((tS xs k).2 : Nat) ∧ Own wr (w.heap.size + 1) (dcells n (tZ xs k)) 31 ∧ Own wr w.heap.size zp 31 ∧ Below w.heap.size w wr) (fun _ i _ => ((N : Int) - intOf i).toNat)
  case atStart => exact ⟨0, by omega, rfl, rfl, by rw [tZ_zero]; exact hO1, hR1, hB1⟩
  case round =>
    clear hO1 hR1 hB1
    obtain ⟨k, hk, rfl, rfl, hO, hR, hB⟩ := hrel
    by_cases hlt : k < N
    · have hs := hB.size
      have hcnt := tS_cnt xs k
      have hfi := fi_self xs k (by rw [hN.out]; exact hlt)
      have hzl := Lib.hid (tZ_len xs k (by omega))
      have hset := Lib.hid (fun y d h => tZ_step xs k (by omega) y d h)
      have hold := Lib.hid (tS_old xs k)
      have hnew := Lib.hid (tS_new xs k)
      have hbd := Lib.hid (tZ_bd xs k)
      have i1 : (k : Int) < (N : Int) := by omega
      have HO := Lib.hid hO
      have HR := Lib.hid hR
      have HB := Lib.hid hB
      obtain ⟨p, hp⟩ : ∃ p, (tS xs k).2 = p := ⟨_, rfl⟩
      rw [hp] at hcnt hbd hnew hold ⊢
      have HP := Lib.hid hp
      clear hO hR hp
      go_wp2
      obtain ⟨w2, rfl⟩ : ∃ x, x = wr := ⟨_, rfl⟩
      go_loopw [8, 9] (fun ow j wr => ∃ m : Nat, m ≤ k ∧ j = .int .i64 m ∧ ow = .int .u8 (p : Nat) ∧ Hid (∀ i, i < m → xs.getD i 0 ≠ xs.getD k 0) ∧ Own wr (w.heap.size + 1) (dcells n (tZ xs k)) 31 ∧ Own wr w.heap.size zp 31 ∧ Below w.heap.size w wr) (fun _ j _ => ((k : Int) - intOf j).toNat)
      case atStart => exact ⟨0, by omega, rfl, rfl, Lib.hid (fun i hi => absurd hi (Nat.not_lt_zero _)), HO.out, HR.out, hB⟩
      case round =>
        clear HO HR hB HB
        obtain ⟨m, hmk, rfl, rfl, hH, hO, hR, hB⟩ := hrel
        have hcl := Lib.hid (hR'.out.below hb hB hb)
        have hx0 : ∀ d, ∀ y : Int, Own ((wr.drewN d).setCell ⟨w.heap.size + 1, 1 + k, none⟩ (.int .u8 y)) (w.heap.size + 1) (dcells n ((tZ xs k).set k y)) 31 := fun d y => by have := (hO.drewN d).set (1 + k) (.int .u8 y); rwa [dcells_set] at this
        have hx1 : ∀ d, ∀ y : Int, Own ((wr.drewN d).setCell ⟨w.heap.size + 1, 1 + k, none⟩ (.int .u8 y)) w.heap.size zp 31 := fun d y => (hR.drewN d).other (by simp) _
        have hx2 : ∀ d, ∀ y : Int, Below w.heap.size w ((wr.drewN d).setCell ⟨w.heap.size + 1, 1 + k, none⟩ (.int .u8 y)) := fun d y => (Below.drewN hB d).setCell (by simp) _
        have K0 := Lib.hid hx0
        have K1 := Lib.hid hx1
        have K2 := Lib.hid hx2
        have c2 := hO.cell (1 + k)
        rw [dcells_get _ _ _ (by rw [hzl.out]; omega)] at c2
        have f2 := hO.free (1 + k)
        generalize (tZ xs k).getD k 0 = z at *
        clear hx0 hx1 hx2
        by_cases hlm : m < k
        · have c1 := hcl.out m (by rw [hN.out]; omega)
          have c3 := hcl.out k (by rw [hN.out]; omega)
          have i2 : (m : Int) < (k : Int) := by omega
          by_cases he : xs.getD m 0 = xs.getD k 0
          · have hf := Lib.hid (fi_eq xs _ m (by rw [hN.out]; omega) he hH.out)
            have hy := hbd.out m hlm
            have h1 := hold.out (by rw [hf.out]; exact hlm)
            rw [hf.out] at h1
            have hE := Lib.hid (show p = (tS xs (k + 1)).2 by rw [h1])
            have hZ := Lib.hid (hset.out _ _ h1)
            have c4 := hO.cell (1 + m)
            rw [dcells_get _ _ _ (by rw [hzl.out]; omega)] at c4
            rw [he] at c1
            obtain ⟨hy0, hy1⟩ := hy
            have hne : ((tZ xs k).getD m 0 == (p : Int)) = false := by rw [beq_eq_false_iff_ne]; omega
            clear hO hR hold hnew hbd hset h1 hf he hH hfi
            generalize xs.getD k 0 = x at *
            generalize (tZ xs k).getD m 0 = y at *
            go_wp2
            go_quiet (fail)
            go_wp2
            go_roundw
            case rel => exact ⟨k + 1, by omega, by go_num, by rw [hE.out], by rw [← hZ.out]; exact K0.out _ _, K1.out _ _, K2.out _ _⟩
            case measure => simp [intOf]; omega
          · have hst := Lib.hid (show ∀ i, i < m + 1 → xs.getD i 0 ≠ xs.getD k 0 from fun i hi => by
              by_cases e : i = m
              · rw [e]; exact he
              · exact hH.out i (by omega))
            have HO := Lib.hid hO
            have HR := Lib.hid hR
            clear hH hO hR c2 f2
            generalize hx : xs.getD k 0 = x at *
            generalize xs.getD m 0 = y at *
            have hne : (y == x) = false := by simpa using he
            have hX := Lib.hid hx
            clear hx he
            go_wp2
            go_quiet (fail)
            go_wp2
            go_roundw
            case rel => exact ⟨m + 1, by omega, by go_num, rfl, hst, HO.out.drewN _, HR.out.drewN _, Below.drewN hB _⟩
            case measure => simp [intOf]; omega
        · obtain rfl : m = k := by omega
          have hf := Lib.hid (fi_ge xs (xs.getD m 0) m (by rw [hN.out]; omega) hH.out)
          have h1 := hnew.out (by have := hf.out; omega)
          have hE := Lib.hid (show p + 1 = (tS xs (m + 1)).2 by rw [h1])
          have hZ := Lib.hid (hset.out _ _ h1)
          clear hO hR hold hnew hbd hset h1 hf hH hfi
          go_wp2
          go_roundw
          case rel => exact ⟨m + 1, by omega, by go_num, by rw [← hE.out]; go_num, by rw [← hZ.out]; exact K0.out 0 _, K1.out 0 _, K2.out 0 _⟩
          case measure => simp [intOf]; omega
    · obtain rfl : k = N := by omega
      have hE := Lib.hid (show told xs = tZ xs k by unfold told; rw [hN.out])
      have hL := Lib.hid (tZ_len xs k h8)
      have hNk := hN.out
      go_wp2_with (first
        | (refine wpList_load_row rfl 31 _ rfl _ rfl 31 _ (0, 0) _ (hO) Try.underlying31 rfl (rowP (d9 _ _ (hL.out))) ?_)
        | (refine wpList_store_own rfl 31 _ _ rfl _ _ rfl rfl 31 _ (hR) (rowP (d9 _ _ (hL.out))) (z_eq8 (d9 _ _ hL.out)) (dcells_one _ _) ?_; intro w3 hO3 hN3))
      refine bodyPost_ret (v := .agg (dcells n (tZ xs k))) (results_cell_row rfl _ _ _ _ _ (0, 0) _ rfl (hO3) Try.underlying31 rfl (rowP (d9 _ _ (hL.out)))) rfl (⟨by rw [hE.out], hB.trans (hN3.below.mono (by omega))⟩)
end Go.Proofs.Ytlgdeciikliihaa
