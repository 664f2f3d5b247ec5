/- The laws' comparison and marks of slices of diagrams with blobs. -/
import Derived.Test.YtpjlienelkflhaaRwb
import Derived.Test.YtpjlienelkflhaaMkd
namespace Go.Proofs.Ytpjlienelkflhaa
open Go.RowKit Go.Lib
set_option linter.unusedVariables false
set_option linter.unusedSimpArgs false
set_option maxRecDepth 100000 in
set_option maxHeartbeats 1000000 in
theorem eqBs_nil (w : World) : Calls Try.prog 23 #[.slice none 0 0, .slice none 0 0] w fun e w' => e = .returned (.bool true) ∧ Below w.heap.size w w' := by
  go_enter Try.func23, Try.ntmps23
  go_wp2
  go_loopw [5] (fun i wr => i = .int .i64 0 ∧ wr = w) (fun i _ => 0)
  case atStart => exact ⟨rfl, rfl⟩
  case round =>
    obtain ⟨rfl, rfl⟩ := hrel
    go_wp2
    go_ret
    exact ⟨rfl, Below.refl _ _⟩
set_option maxRecDepth 100000 in
set_option maxHeartbeats 1000000 in
theorem markBs_nil (w : World) : Calls Try.prog 24 #[.slice none 0 0, .int .i64 1] w fun e w' => e = .returned (.int .i64 1) ∧ w' = w := by
  go_enter Try.func24, Try.ntmps24
  go_wp2
  go_loopw [1, 5] (fun q i wr => q = .int .i64 1 ∧ i = .int .i64 0 ∧ wr = w) (fun _ i _ => 0)
  case atStart => exact ⟨rfl, rfl, rfl⟩
  case round =>
    obtain ⟨rfl, rfl, rfl⟩ := hrel
    go_wp2
    go_ret
    exact ⟨rfl, rfl⟩
set_option maxRecDepth 100000 in
set_option maxHeartbeats 1000000 in
theorem heldBs_nil (w : World) : Calls Try.prog 25 #[.slice none 0 0, .int .i64 1] w fun e w' => e = .returned (.int .i64 1) ∧ w' = w := by
  go_enter Try.func25, Try.ntmps25
  go_wp2
  go_loopw [1, 5] (fun q i wr => q = .int .i64 1 ∧ i = .int .i64 0 ∧ wr = w) (fun _ i _ => 0)
  case atStart => exact ⟨rfl, rfl, rfl⟩
  case round =>
    obtain ⟨rfl, rfl, rfl⟩ := hrel
    go_wp2
    go_ret
    exact ⟨rfl, rfl⟩
set_option maxRecDepth 100000 in
set_option maxHeartbeats 1000000 in
theorem eqBs_same (w : World) (B g1 c1 g2 c2 : Nat) (ds : List BlR) (h16 : LB16 ds) (hm : ds.length ≤ 2000000) (hB : B = w.heap.size)
    (hR1 : RowL w 0 (.slice (some ⟨g1, 0, none⟩) ds.length c1) ds) (hR2 : RowL w 0 (.slice (some ⟨g2, 0, none⟩) ds.length c2) ds) :
    Calls Try.prog 23 #[.slice (some ⟨g1, 0, none⟩) ds.length c1, .slice (some ⟨g2, 0, none⟩) ds.length c2] w fun e w' => e = .returned (.bool true) ∧ Below B w w' := by
  have h16' := Lib.hid h16
  clear h16
  go_enter Try.func23, Try.ntmps23
  go_wp2
  go_loopw [5] (fun i wr => ∃ k : Nat, k ≤ ds.length ∧ i = .int .i64 k ∧ RowL wr 0 (.slice (some ⟨g1, 0, none⟩) ds.length c1) ds ∧ RowL wr 0 (.slice (some ⟨g2, 0, none⟩) ds.length c2) ds ∧ Below B w wr) (fun i _ => (ds.length - intOf i).toNat)
  case atStart => exact ⟨0, by omega, rfl, hR1, hR2, Below.refl _ _⟩
  case round =>
    clear hR1 hR2
    obtain ⟨k, hk, rfl, hR1, hR2, hBB⟩ := hrel
    by_cases hlt : k < ds.length
    · have r1 := Lib.hid (hR1.read h16'.out k hlt)
      have r2 := Lib.hid (hR2.read h16'.out k hlt)
      have hl0 := (show (ds.getD k zBl).2.1.length = 16 ∧ (ds.getD k zBl).2.2.length = 16 by
        rw [List.getD_eq_getElem?_getD, List.getElem?_eq_getElem hlt]; exact h16'.out _ (List.getElem_mem hlt))
      obtain ⟨⟨dn, dm, db⟩, hd⟩ : ∃ d, ds.getD k zBl = d := ⟨_, rfl⟩
      rw [hd] at r1 r2 hl0
      have hl := Lib.hid (show dm.length = 16 from hl0.1)
      have hq := Lib.hid (show db.length = 16 from hl0.2)
      have h33 := Lib.hid (show (bcl dn dm db).toList.length = 33 from bl33 hl.out hq.out)
      have kI : (k : Int) < (ds.length : Int) := by omega
      have hsz := hBB.size
      have qB := hBB.drew
      have hR1d : RowL wr.drew 0 (.slice (some ⟨g1, 0, none⟩) ds.length c1) ds := hR1
      have hR2d : RowL wr.drew 0 (.slice (some ⟨g2, 0, none⟩) ds.length c2) ds := hR2
      have r1d := Lib.hid (show ∀ j u, (bcl dn dm db).toList[j]? = some u → wr.drew.cell? ((⟨g1, k * 33, none⟩ : Addr).add j) = some u from r1.out)
      have r2d := Lib.hid (show ∀ j u, (bcl dn dm db).toList[j]? = some u → wr.drew.cell? ((⟨g2, k * 33, none⟩ : Addr).add j) = some u from r2.out)
      clear hR1 hR2 hBB r1 r2 hd hl0
      go_wp2_with fail
      refine wp_region_still_tail 8 (by kernel_rfl) (by kernel_rfl) ?_
      change wpStill _ _ wr.drew (fun a' => wpList _ _ _ _ a' wr.drew) _ _
      generalize wr.drew = wd at *
      simp only [List.take_succ_cons, List.take_zero, List.drop_succ_cons, List.drop_zero]
      still_step
      still_step
      still_step
      refine wpStill_step (fun K' hK' => ?_)
      rw [if_pos (by rfl)]
      refine still_load_at 64 (.tmp 19) rfl ⟨g1, k * 33, none⟩ (by first | rfl | simp) (bcl dn dm db).toList _ r1d.out Try.underlying64 rfl (by rw [h33.out]; kernel_rfl) ?_
      refine hK' _ ?_
      clear hK' K'
      still_step
      still_step
      still_step
      refine wpStill_step (fun K' hK' => ?_)
      rw [if_pos (by rfl)]
      refine still_load_at 64 (.tmp 23) rfl ⟨g2, k * 33, none⟩ (by first | rfl | simp) (bcl dn dm db).toList _ r2d.out Try.underlying64 rfl (by rw [h33.out]; kernel_rfl) ?_
      refine hK' _ ?_
      clear hK' K'
      refine wpStill_nil ?_
      go_wp2_with (first
        | (go_at_call 42; refine (eqBl_same dn dm db hl.out hq.out _).mono ?_; rintro e w1 ⟨rfl, hB1⟩))
      have q1 := hR1d.below hB1 (Nat.le_refl _)
      have q2 := hR2d.below hB1 (Nat.le_refl _)
      have q3 : Below B w w1 := qB.trans (hB1.mono (by have := qB.size; omega))
      go_roundw
      case rel => exact ⟨k + 1, by omega, by go_num, q1, q2, q3⟩
      case measure => simp [intOf]; omega
    · have e : k = ds.length := by omega
      subst e
      clear hR1 hR2
      go_wp2
      go_ret
      exact ⟨rfl, hBB⟩
/-- What the laws write into the cell c. -/
def mkW (c : Nat) : Value := if c % 33 = 0 then .int .i64 ((c : Int) + 1) else if c % 33 ≤ 16 then .int .u8 (((c : Int) + 1) % 256) else .bool (decide (((c : Int) + 1) % 3 = 0))
theorem mkW_size (k : Nat) : mkW (k * 33) = .int .i64 ((k : Int) * 33 + 1) := by
  unfold mkW
  rw [if_pos (by omega)]
  simp
theorem mkW_mate (k j : Nat) (h : j < 16) : mkW (k * 33 + 1 + j) = .int .u8 (((k : Int) * 33 + 2 + j) % 256) := by
  unfold mkW
  rw [if_neg (by omega), if_pos (by omega)]
  congr 1
  omega
theorem mkW_blob (k j : Nat) (h : j < 16) : mkW (k * 33 + 17 + j) = .bool (decide (((k : Int) * 33 + 18 + j) % 3 = 0)) := by
  unfold mkW
  rw [if_neg (by omega), if_neg (by omega)]
  congr 2
  rw [show ((k * 33 + 17 + j : Nat) : Int) + 1 = (k : Int) * 33 + 18 + j by omega]
/-- The first c cells of a block of S cells hold the marks. -/
def Mkb (w : World) (g S c : Nat) : Prop := ∃ cs : Array Value, Own w g cs 64 ∧ cs.size = S ∧ ∀ j, j < c → cs[j]? = some (mkW j)
theorem Mkb.cell {w : World} {g S c : Nat} (h : Mkb w g S c) (j : Nat) (hj : j < c) : w.cell? ⟨g, j, none⟩ = some (mkW j) := by
  obtain ⟨cs, ho, _, hc⟩ := h
  rw [ho.cell]; exact hc j hj
theorem Mkb.room {w : World} {g S c : Nat} (h : Mkb w g S c) (j : Nat) (hj : j < S) : ∃ v, w.cell? ⟨g, j, none⟩ = some v := by
  obtain ⟨cs, ho, hs, hc⟩ := h
  exact ⟨cs[j], by rw [ho.cell, Array.getElem?_eq_getElem (by omega)]⟩
theorem Mkb.set {w : World} {g S c : Nat} (h : Mkb w g S c) (hc : c < S) (v : Value) (hv : v = mkW c) : Mkb (w.setCell ⟨g, c, none⟩ v) g S (c + 1) := by
  subst hv
  obtain ⟨cs, ho, hs, hh⟩ := h
  refine ⟨_, ho.set c (mkW c), by simp [hs], fun j hj => ?_⟩
  by_cases e : j = c
  · subst e; simp [hs, hc]
  · rw [Array.getElem?_setIfInBounds_ne (fun h => e h.symm)]
    exact hh j (by omega)
theorem Mkb.below {w w' : World} {g S c B : Nat} (h : Mkb w g S c) (hb : Below B w w') (hB : g < B) : Mkb w' g S c := by
  obtain ⟨cs, ho, h2⟩ := h
  exact ⟨cs, ho.below hb hB, h2⟩
theorem Mkb.free {w : World} {g S c : Nat} (h : Mkb w g S c) (j : Nat) : w.frozen? ⟨g, j, none⟩ = false := by
  obtain ⟨cs, ho, _⟩ := h
  exact ho.free j
theorem RowL.mkb {w : World} {base g m cap : Nat} {ds : List BlR} (h : RowL w base (.slice (some ⟨g, 0, none⟩) m cap) ds) : Mkb w g (cap * 33) 0 ∧ ds.length ≤ cap := by
  obtain ⟨_, ⟨e, _⟩ | ⟨g', cap', cur, e, hg, hh, hn, hcap, hsz, htake⟩⟩ := h
  · cases e
  · cases e
    exact ⟨⟨cur, hh, hsz, fun j hj => by omega⟩, hn⟩
set_option maxRecDepth 100000 in
set_option maxHeartbeats 2000000 in
theorem markBs_any (w : World) (g m cap : Nat) (hm : m ≤ 2000000) (hc : m ≤ cap) (h : Mkb w g (cap * 33) 0) :
    Calls Try.prog 24 #[.slice (some ⟨g, 0, none⟩) m cap, .int .i64 1] w fun e w' => e = .returned (.int .i64 ((m : Int) * 33 + 1)) ∧ Mkb w' g (cap * 33) (m * 33) ∧ Only g w w' := by
  go_enter Try.func24, Try.ntmps24
  go_wp2
  go_loopw [1, 5] (fun q i wr => ∃ k : Nat, k ≤ m ∧ i = .int .i64 k ∧ q = .int .i64 ((k : Int) * 33 + 1) ∧ Mkb wr g (cap * 33) (k * 33) ∧ Only g w wr) (fun _ i _ => (m - intOf i).toNat)
  case atStart => exact ⟨0, by omega, rfl, rfl, by simpa using h, Only.refl _ _⟩
  case round =>
    clear h
    obtain ⟨k, hk, rfl, rfl, hM, hO⟩ := hrel
    by_cases hlt : k < m
    · have kI : (k : Int) < (m : Int) := by omega
      obtain ⟨v0, hv0⟩ := hM.room (k * 33) (by omega)
      have f0 := hM.free (k * 33)
      have hM1 := Lib.hid (hM.set (by omega) (.int .i64 ((k : Int) * 33 + 1)) (mkW_size k).symm)
      have hO1 := Lib.hid (hO.trans (Only.set g (k * 33) wr (.int .i64 ((k : Int) * 33 + 1))))
      clear hM hO
      go_wp2
      have nM := hM1.out
      have nO := hO1.out
      clear hM1 hO1 hv0 f0
      go_loopw [1, 6] (fun q j wj => ∃ c : Nat, c ≤ 16 ∧ j = .int .i64 c ∧ q = .int .i64 ((k : Int) * 33 + 2 + c) ∧ Mkb wj g (cap * 33) (k * 33 + 1 + c) ∧ Only g w wj) (fun _ j _ => (16 - intOf j).toNat)
      case atStart => exact ⟨0, by omega, rfl, by go_num, nM, nO⟩
      case round =>
        clear nM nO
        obtain ⟨c, hc16, rfl, rfl, hM, hO⟩ := hrel
        by_cases hl2 : c < 16
        · have cI : (c : Int) < 16 := by omega
          obtain ⟨v0, hv0⟩ := hM.room (k * 33 + 1 + c) (by omega)
          have f0 := hM.free (k * 33 + 1 + c)
          have hM1 := Lib.hid (hM.set (by omega) (.int .u8 (((k : Int) * 33 + 2 + c) % 256)) (mkW_mate k c hl2).symm)
          have hO1 := Lib.hid (hO.trans (Only.set g (k * 33 + 1 + c) _ (.int .u8 (((k : Int) * 33 + 2 + c) % 256))))
          clear hM hO
          go_wp2
          go_roundw
          case rel => exact ⟨c + 1, by omega, by go_num, by go_num, hM1.out, hO1.out⟩
          case measure => simp [intOf]; omega
        · have e : c = 16 := by omega
          subst e
          have nM := hM
          have nO := hO
          clear hM hO
          go_wp2
          go_loopw [1, 7] (fun q j wj => ∃ c : Nat, c ≤ 16 ∧ j = .int .i64 c ∧ q = .int .i64 ((k : Int) * 33 + 18 + c) ∧ Mkb wj g (cap * 33) (k * 33 + 17 + c) ∧ Only g w wj) (fun _ j _ => (16 - intOf j).toNat)
          case atStart => exact ⟨0, by omega, rfl, by go_num, nM, nO⟩
          case round =>
            clear nM nO
            obtain ⟨c, hc16, rfl, rfl, hM, hO⟩ := hrel
            by_cases hl2 : c < 16
            · have cI : (c : Int) < 16 := by omega
              obtain ⟨v0, hv0⟩ := hM.room (k * 33 + 17 + c) (by omega)
              have f0 := hM.free (k * 33 + 17 + c)
              have t3 : ((k : Int) * 33 + 18 + c).tmod 3 = ((k : Int) * 33 + 18 + c) % 3 := Int.tmod_eq_emod_of_nonneg (by omega)
              have hM1 := Lib.hid (hM.set (by omega) (.bool (decide (((k : Int) * 33 + 18 + c) % 3 = 0))) (mkW_blob k c hl2).symm)
              have hO1 := Lib.hid (hO.trans (Only.set g (k * 33 + 17 + c) _ (.bool (decide (((k : Int) * 33 + 18 + c) % 3 = 0)))))
              clear hM hO
              go_wp2
              go_roundw
              case rel => exact ⟨c + 1, by omega, by go_num, by go_num, hM1.out, hO1.out⟩
              case measure => simp [intOf]; omega
            · have e : c = 16 := by omega
              subst e
              have hM1 := Lib.hid hM
              have hO1 := Lib.hid hO
              clear hM hO
              go_wp2
              go_roundw
              case rel => exact ⟨k + 1, by omega, by go_num, by go_num, by rw [show (k + 1) * 33 = k * 33 + 17 + 16 by omega]; exact hM1.out, hO1.out⟩
              case measure => simp [intOf]; omega
    · have e : k = m := by omega
      subst e
      go_wp2
      go_ret
      exact ⟨rfl, hM, hO⟩
set_option maxRecDepth 100000 in
set_option maxHeartbeats 2000000 in
theorem heldBs_any (w : World) (g m cap S : Nat) (hm : m ≤ 2000000) (h : Mkb w g S (m * 33)) :
    Calls Try.prog 25 #[.slice (some ⟨g, 0, none⟩) m cap, .int .i64 1] w fun e w' => e = .returned (.int .i64 ((m : Int) * 33 + 1)) ∧ w' = w := by
  have hh := Lib.hid h
  clear h
  go_enter Try.func25, Try.ntmps25
  go_wp2
  go_loopw [1, 5] (fun q i wr => ∃ k : Nat, k ≤ m ∧ i = .int .i64 k ∧ q = .int .i64 ((k : Int) * 33 + 1) ∧ wr = w) (fun _ i _ => (m - intOf i).toNat)
  case atStart => exact ⟨0, by omega, rfl, rfl, rfl⟩
  case round =>
    obtain ⟨k, hk, rfl, rfl, rfl⟩ := hrel
    by_cases hlt : k < m
    · have kI : (k : Int) < (m : Int) := by omega
      have c0 := hh.out.cell (k * 33) (by omega)
      rw [mkW_size] at c0
      go_wp2
      clear c0
      go_loopw [1, 6] (fun q j wj => ∃ c : Nat, c ≤ 16 ∧ j = .int .i64 c ∧ q = .int .i64 ((k : Int) * 33 + 2 + c) ∧ wj = wr) (fun _ j _ => (16 - intOf j).toNat)
      case atStart => exact ⟨0, by omega, rfl, by go_num, rfl⟩
      case round =>
        obtain ⟨c, hc16, rfl, rfl, rfl⟩ := hrel
        by_cases hl2 : c < 16
        · have cI : (c : Int) < 16 := by omega
          have c0 := hh.out.cell (k * 33 + 1 + c) (by omega)
          rw [mkW_mate k c hl2] at c0
          go_wp2
          go_roundw
          case rel => exact ⟨c + 1, by omega, by go_num, by go_num, trivial⟩
          case measure => simp [intOf]; omega
        · have e : c = 16 := by omega
          subst e
          go_wp2
          go_loopw [1, 7] (fun q j wk => ∃ c : Nat, c ≤ 16 ∧ j = .int .i64 c ∧ q = .int .i64 ((k : Int) * 33 + 18 + c) ∧ wk = wr) (fun _ j _ => (16 - intOf j).toNat)
          case atStart => exact ⟨0, by omega, rfl, by go_num, rfl⟩
          case round =>
            obtain ⟨c, hc16, rfl, rfl, rfl⟩ := hrel
            by_cases hl2 : c < 16
            · have cI : (c : Int) < 16 := by omega
              have t3 : ((k : Int) * 33 + 18 + c).tmod 3 = ((k : Int) * 33 + 18 + c) % 3 := Int.tmod_eq_emod_of_nonneg (by omega)
              have c0 := hh.out.cell (k * 33 + 17 + c) (by omega)
              have e3 : decide (((k : Int) * 33 + 18 + c) % 3 = 0) = (((k : Int) * 33 + 18 + c) % 3 == 0) := by rw [Bool.eq_iff_iff]; simp
              rw [mkW_blob k c hl2, e3] at c0
              clear e3
              cases b3 : (((k : Int) * 33 + 18 + c) % 3 == 0) with
              | true =>
                rw [b3] at c0
                go_wp2
                go_roundw
                case rel => exact ⟨c + 1, by omega, by go_num, by go_num, trivial⟩
                case measure => simp [intOf]; omega
              | false =>
                rw [b3] at c0
                go_wp2
                go_roundw
                case rel => exact ⟨c + 1, by omega, by go_num, by go_num, trivial⟩
                case measure => simp [intOf]; omega
            · have e : c = 16 := by omega
              subst e
              go_wp2
              go_roundw
              case rel => exact ⟨k + 1, by omega, by go_num, by go_num, trivial⟩
              case measure => simp [intOf]; omega
    · have e : k = m := by omega
      subst e
      go_wp2
      go_ret
      exact ⟨rfl, rfl⟩
end Go.Proofs.Ytpjlienelkflhaa
