/- The laws' comparison and marks of slices of partitions. -/
import Derived.Test.YthjgcakpimbcbaaRwp
import Derived.Test.YthjgcakpimbcbaaLawA
import Derived.StillTailTactics
namespace Go.Proofs.Ythjgcakpimbcbaa
open Go.RowKit Go.Lib
set_option linter.unusedVariables false
set_option linter.unusedSimpArgs false
theorem still_load_at {P : Program} {o : Oper} {a : Act} {w : World} {K : Act → Prop} (ty : TypeId) (x : Operand) (ho : o.op = .load ty x)
    (ad : Addr) (hx : a.eval x = .pointer (some ad)) (cs : List Value) (d : TypeDesc) (hc : ∀ j v, cs[j]? = some v → w.cell? (ad.add j) = some v)
    (hu : P.underlying ty = some d) (hd : d.isRow = true) (hi : (P.info? ty).map (·.size) = some cs.length)
    (h : K (a.put o.dst (.agg cs.toArray))) : o.still P a w K := by
  have hv : (loadVar ty ad).run P w = .ok (.agg cs.toArray) w := by
    have hl : (loadCells ad cs.length).run P w = .ok cs.toArray w := run_loadCells_list (P := P) w ad cs hc
    cases hq : P.info? ty with
    | none => simp [hq] at hi
    | some i =>
      have hs : i.size = cs.length := by simpa [hq] using hi
      have hagg : (isAgg ty).run P w = .ok true w := by
        unfold isAgg
        rw [Sem.run_bind, run_underlying hu w]
        cases d <;> simp_all
      simp [loadVar, Sem.run_bind, hagg, sizeOf, typeInfo, hq, hs, hl]
  unfold Oper.still execOp
  simp only [ho, hx, Instr.loadAt, Instr.sureAddr, Sem.run_bind, Sem.run_pure, Result.andThen_ok, hv]
  rw [Oper.stillUpon_value]; exact h
set_option maxRecDepth 100000 in
set_option maxHeartbeats 1000000 in
theorem eqPs_nil (w : World) : Calls Try.prog 7 #[.slice none 0 0, .slice none 0 0] w fun e w' => e = .returned (.bool true) ∧ Below w.heap.size w w' := by
  go_enter Try.func7, Try.ntmps7
  go_wp2
  go_loopw [5] (fun i wr => i = .int .i64 0 ∧ wr = w) (fun i _ => 0)
  case atStart => exact ⟨rfl, rfl⟩
  case round =>
    obtain ⟨rfl, rfl⟩ := hrel
    go_wp2
    go_ret
    exact ⟨rfl, Below.refl _ _⟩
set_option maxRecDepth 100000 in
set_option maxHeartbeats 1000000 in
theorem markPs_nil (w : World) : Calls Try.prog 8 #[.slice none 0 0, .int .i64 1] w fun e w' => e = .returned (.int .i64 1) ∧ w' = w := by
  go_enter Try.func8, Try.ntmps8
  go_wp2
  go_loopw [1, 5] (fun q i wr => q = .int .i64 1 ∧ i = .int .i64 0 ∧ wr = w) (fun _ i _ => 0)
  case atStart => exact ⟨rfl, rfl, rfl⟩
  case round =>
    obtain ⟨rfl, rfl, rfl⟩ := hrel
    go_wp2
    go_ret
    exact ⟨rfl, rfl⟩
set_option maxRecDepth 100000 in
set_option maxHeartbeats 1000000 in
theorem heldPs_nil (w : World) : Calls Try.prog 9 #[.slice none 0 0, .int .i64 1] w fun e w' => e = .returned (.int .i64 1) ∧ w' = w := by
  go_enter Try.func9, Try.ntmps9
  go_wp2
  go_loopw [1, 5] (fun q i wr => q = .int .i64 1 ∧ i = .int .i64 0 ∧ wr = w) (fun _ i _ => 0)
  case atStart => exact ⟨rfl, rfl, rfl⟩
  case round =>
    obtain ⟨rfl, rfl, rfl⟩ := hrel
    go_wp2
    go_ret
    exact ⟨rfl, rfl⟩
set_option maxRecDepth 100000 in
set_option maxHeartbeats 1000000 in
theorem eqPs_same (w : World) (B g1 c1 g2 c2 : Nat) (ds : List PtR) (h16 : LP8 ds) (hm : ds.length ≤ 100000) (hB : B = w.heap.size)
    (hR1 : RowQ w 0 (.slice (some ⟨g1, 0, none⟩) ds.length c1) ds) (hR2 : RowQ w 0 (.slice (some ⟨g2, 0, none⟩) ds.length c2) ds) :
    Calls Try.prog 7 #[.slice (some ⟨g1, 0, none⟩) ds.length c1, .slice (some ⟨g2, 0, none⟩) ds.length c2] w fun e w' => e = .returned (.bool true) ∧ Below B w w' := by
  have h16' := Lib.hid h16
  clear h16
  go_enter Try.func7, Try.ntmps7
  go_wp2
  go_loopw [5] (fun i wr => ∃ k : Nat, k ≤ ds.length ∧ i = .int .i64 k ∧ RowQ wr 0 (.slice (some ⟨g1, 0, none⟩) ds.length c1) ds ∧ RowQ wr 0 (.slice (some ⟨g2, 0, none⟩) ds.length c2) ds ∧ Below B w wr) (fun i _ => (ds.length - intOf i).toNat)
  case atStart => exact ⟨0, by omega, rfl, hR1, hR2, Below.refl _ _⟩
  case round =>
    clear hR1 hR2
    obtain ⟨k, hk, rfl, hR1, hR2, hBB⟩ := hrel
    by_cases hlt : k < ds.length
    · have r1 := Lib.hid (hR1.read h16'.out k hlt)
      have r2 := Lib.hid (hR2.read h16'.out k hlt)
      have hl := Lib.hid (show (ds.getD k (0, zer8)).2.length = 8 by
        rw [List.getD_eq_getElem?_getD, List.getElem?_eq_getElem hlt]; exact h16'.out _ (List.getElem_mem hlt))
      obtain ⟨⟨dn, dm⟩, hd⟩ : ∃ d, ds.getD k (0, zer8) = d := ⟨_, rfl⟩
      rw [hd] at r1 r2 hl
      have h9 := Lib.hid (show (dcells dn dm).toList.length = 9 from dl9 hl.out)
      have kI : (k : Int) < (ds.length : Int) := by omega
      have hsz := hBB.size
      clear hd
      have qB := hBB.drew
      have hR1d : RowQ wr.drew 0 (.slice (some ⟨g1, 0, none⟩) ds.length c1) ds := hR1
      have hR2d : RowQ wr.drew 0 (.slice (some ⟨g2, 0, none⟩) ds.length c2) ds := hR2
      have r1d := Lib.hid (show ∀ j u, (dcells dn dm).toList[j]? = some u → wr.drew.cell? ((⟨g1, k * 9, none⟩ : Addr).add j) = some u from r1.out)
      have r2d := Lib.hid (show ∀ j u, (dcells dn dm).toList[j]? = some u → wr.drew.cell? ((⟨g2, k * 9, none⟩ : Addr).add j) = some u from r2.out)
      clear hR1 hR2 hBB r1 r2
      go_wp2_with fail
      refine wp_region_still_tail 8 (by kernel_rfl) (by kernel_rfl) ?_
      change wpStill _ _ wr.drew (fun a' => wpList _ _ _ _ a' wr.drew) _ _
      generalize wr.drew = wd at *
      simp only [List.take_succ_cons, List.take_zero, List.drop_succ_cons, List.drop_zero]
      still_step
      still_step
      still_step
      refine wpStill_step (fun K' hK' => ?_)
      rw [if_pos (by rfl)]
      refine still_load_at 38 (.tmp 19) rfl ⟨g1, k * 9, none⟩ (by first | rfl | simp) (dcells dn dm).toList _ r1d.out Try.underlying38 rfl (by rw [h9.out]; kernel_rfl) ?_
      refine hK' _ ?_
      clear hK' K'
      still_step
      still_step
      still_step
      refine wpStill_step (fun K' hK' => ?_)
      rw [if_pos (by rfl)]
      refine still_load_at 38 (.tmp 23) rfl ⟨g2, k * 9, none⟩ (by first | rfl | simp) (dcells dn dm).toList _ r2d.out Try.underlying38 rfl (by rw [h9.out]; kernel_rfl) ?_
      refine hK' _ ?_
      clear hK' K'
      refine wpStill_nil ?_
      go_wp2_with (first
        | (go_at_call 18; refine (eqP_same dn dm hl.out _).mono ?_; rintro e w1 ⟨rfl, hB1⟩))
      have q1 := hR1d.below hB1 (Nat.le_refl _)
      have q2 := hR2d.below hB1 (Nat.le_refl _)
      have q3 : Below B w w1 := qB.trans (hB1.mono (by have := qB.size; omega))
      go_roundw
      case rel => exact ⟨k + 1, by omega, by go_num, q1, q2, q3⟩
      case measure => simp [intOf]; omega
    · have e : k = ds.length := by omega
      subst e
      clear hR1 hR2
      go_wp2
      go_ret
      exact ⟨rfl, hBB⟩
/-- What the laws write into the cell c. -/
def mkP (c : Nat) : Value := if c % 9 = 0 then .int .i64 ((c : Int) + 1) else .int .u8 (((c : Int) + 1) % 256)
theorem mkP_size (k : Nat) : mkP (k * 9) = .int .i64 ((k : Int) * 9 + 1) := by
  unfold mkP
  rw [if_pos (by omega)]
  simp
theorem mkP_mate (k j : Nat) (h : j < 8) : mkP (k * 9 + 1 + j) = .int .u8 (((k : Int) * 9 + 2 + j) % 256) := by
  unfold mkP
  rw [if_neg (by omega)]
  congr 1
  omega
/-- The first c cells of a block of S cells hold the marks. -/
def Mkp (w : World) (g S c : Nat) : Prop := ∃ cs : Array Value, Own w g cs 38 ∧ cs.size = S ∧ ∀ j, j < c → cs[j]? = some (mkP j)
theorem Mkp.cell {w : World} {g S c : Nat} (h : Mkp w g S c) (j : Nat) (hj : j < c) : w.cell? ⟨g, j, none⟩ = some (mkP j) := by
  obtain ⟨cs, ho, _, hc⟩ := h
  rw [ho.cell]; exact hc j hj
theorem Mkp.room {w : World} {g S c : Nat} (h : Mkp w g S c) (j : Nat) (hj : j < S) : ∃ v, w.cell? ⟨g, j, none⟩ = some v := by
  obtain ⟨cs, ho, hs, hc⟩ := h
  exact ⟨cs[j], by rw [ho.cell, Array.getElem?_eq_getElem (by omega)]⟩
theorem Mkp.set {w : World} {g S c : Nat} (h : Mkp w g S c) (hc : c < S) (v : Value) (hv : v = mkP c) : Mkp (w.setCell ⟨g, c, none⟩ v) g S (c + 1) := by
  subst hv
  obtain ⟨cs, ho, hs, hh⟩ := h
  refine ⟨_, ho.set c (mkP c), by simp [hs], fun j hj => ?_⟩
  by_cases e : j = c
  · subst e; simp [hs, hc]
  · rw [Array.getElem?_setIfInBounds_ne (fun h => e h.symm)]
    exact hh j (by omega)
theorem Mkp.below {w w' : World} {g S c B : Nat} (h : Mkp w g S c) (hb : Below B w w') (hB : g < B) : Mkp w' g S c := by
  obtain ⟨cs, ho, h2⟩ := h
  exact ⟨cs, ho.below hb hB, h2⟩
theorem Mkp.free {w : World} {g S c : Nat} (h : Mkp w g S c) (j : Nat) : w.frozen? ⟨g, j, none⟩ = false := by
  obtain ⟨cs, ho, _⟩ := h
  exact ho.free j
theorem RowQ.mkp {w : World} {base g m cap : Nat} {ds : List PtR} (h : RowQ w base (.slice (some ⟨g, 0, none⟩) m cap) ds) : Mkp w g (cap * 9) 0 ∧ ds.length ≤ cap := by
  obtain ⟨_, ⟨e, _⟩ | ⟨g', cap', cur, e, hg, hh, hn, hcap, hsz, htake⟩⟩ := h
  · cases e
  · cases e
    exact ⟨⟨cur, hh, hsz, fun j hj => by omega⟩, hn⟩
set_option maxRecDepth 100000 in
set_option maxHeartbeats 1000000 in
theorem markPs_any (w : World) (g m cap : Nat) (hm : m ≤ 100000) (hc : m ≤ cap) (h : Mkp w g (cap * 9) 0) :
    Calls Try.prog 8 #[.slice (some ⟨g, 0, none⟩) m cap, .int .i64 1] w fun e w' => e = .returned (.int .i64 ((m : Int) * 9 + 1)) ∧ Mkp w' g (cap * 9) (m * 9) ∧ Only g w w' := by
  go_enter Try.func8, Try.ntmps8
  go_wp2
  go_loopw [1, 5] (fun q i wr => ∃ k : Nat, k ≤ m ∧ i = .int .i64 k ∧ q = .int .i64 ((k : Int) * 9 + 1) ∧ Mkp wr g (cap * 9) (k * 9) ∧ Only g w wr) (fun _ i _ => (m - intOf i).toNat)
  case atStart => exact ⟨0, by omega, rfl, rfl, by simpa using h, Only.refl _ _⟩
  case round =>
    clear h
    obtain ⟨k, hk, rfl, rfl, hM, hO⟩ := hrel
    by_cases hlt : k < m
    · have kI : (k : Int) < (m : Int) := by omega
      obtain ⟨v0, hv0⟩ := hM.room (k * 9) (by omega)
      have f0 := hM.free (k * 9)
      have hM1 := Lib.hid (hM.set (by omega) (.int .i64 ((k : Int) * 9 + 1)) (mkP_size k).symm)
      have hO1 := Lib.hid (hO.trans (Only.set g (k * 9) wr (.int .i64 ((k : Int) * 9 + 1))))
      clear hM hO
      go_wp2
      have nM := hM1.out
      have nO := hO1.out
      clear hM1 hO1 hv0 f0
      go_loopw [1, 6] (fun q j wj => ∃ c : Nat, c ≤ 8 ∧ j = .int .i64 c ∧ q = .int .i64 ((k : Int) * 9 + 2 + c) ∧ Mkp wj g (cap * 9) (k * 9 + 1 + c) ∧ Only g w wj) (fun _ j _ => (8 - intOf j).toNat)
      case atStart => exact ⟨0, by omega, rfl, by go_num, nM, nO⟩
      case round =>
        clear nM nO
        obtain ⟨c, hc8, rfl, rfl, hM, hO⟩ := hrel
        by_cases hl2 : c < 8
        · have cI : (c : Int) < 8 := by omega
          obtain ⟨v0, hv0⟩ := hM.room (k * 9 + 1 + c) (by omega)
          have f0 := hM.free (k * 9 + 1 + c)
          have hM1 := Lib.hid (hM.set (by omega) (.int .u8 (((k : Int) * 9 + 2 + c) % 256)) (mkP_mate k c hl2).symm)
          have hO1 := Lib.hid (hO.trans (Only.set g (k * 9 + 1 + c) _ (.int .u8 (((k : Int) * 9 + 2 + c) % 256))))
          clear hM hO
          go_wp2
          go_roundw
          case rel => exact ⟨c + 1, by omega, by go_num, by go_num, hM1.out, hO1.out⟩
          case measure => simp [intOf]; omega
        · have e : c = 8 := by omega
          subst e
          have hM1 := Lib.hid hM
          have hO1 := Lib.hid hO
          clear hM hO
          go_wp2
          go_roundw
          case rel => exact ⟨k + 1, by omega, by go_num, by go_num, by rw [show (k + 1) * 9 = k * 9 + 1 + 8 by omega]; exact hM1.out, hO1.out⟩
          case measure => simp [intOf]; omega
    · have e : k = m := by omega
      subst e
      go_wp2
      go_ret
      exact ⟨rfl, hM, hO⟩
set_option maxRecDepth 100000 in
set_option maxHeartbeats 1000000 in
theorem heldPs_any (w : World) (g m cap S : Nat) (hm : m ≤ 100000) (h : Mkp w g S (m * 9)) :
    Calls Try.prog 9 #[.slice (some ⟨g, 0, none⟩) m cap, .int .i64 1] w fun e w' => e = .returned (.int .i64 ((m : Int) * 9 + 1)) ∧ w' = w := by
  have hh := Lib.hid h
  clear h
  go_enter Try.func9, Try.ntmps9
  go_wp2
  go_loopw [1, 5] (fun q i wr => ∃ k : Nat, k ≤ m ∧ i = .int .i64 k ∧ q = .int .i64 ((k : Int) * 9 + 1) ∧ wr = w) (fun _ i _ => (m - intOf i).toNat)
  case atStart => exact ⟨0, by omega, rfl, rfl, rfl⟩
  case round =>
    obtain ⟨k, hk, rfl, rfl, rfl⟩ := hrel
    by_cases hlt : k < m
    · have kI : (k : Int) < (m : Int) := by omega
      have c0 := hh.out.cell (k * 9) (by omega)
      rw [mkP_size] at c0
      go_wp2
      clear c0
      go_loopw [1, 6] (fun q j wj => ∃ c : Nat, c ≤ 8 ∧ j = .int .i64 c ∧ q = .int .i64 ((k : Int) * 9 + 2 + c) ∧ wj = wr) (fun _ j _ => (8 - intOf j).toNat)
      case atStart => exact ⟨0, by omega, rfl, by go_num, rfl⟩
      case round =>
        obtain ⟨c, hc8, rfl, rfl, rfl⟩ := hrel
        by_cases hl2 : c < 8
        · have cI : (c : Int) < 8 := by omega
          have c0 := hh.out.cell (k * 9 + 1 + c) (by omega)
          rw [mkP_mate k c hl2] at c0
          go_wp2
          go_roundw
          case rel => exact ⟨c + 1, by omega, by go_num, by go_num, trivial⟩
          case measure => simp [intOf]; omega
        · have e : c = 8 := by omega
          subst e
          go_wp2
          go_roundw
          case rel => exact ⟨k + 1, by omega, by go_num, by go_num, trivial⟩
          case measure => simp [intOf]; omega
    · have e : k = m := by omega
      subst e
      go_wp2
      go_ret
      exact ⟨rfl, rfl⟩
end Go.Proofs.Ythjgcakpimbcbaa
