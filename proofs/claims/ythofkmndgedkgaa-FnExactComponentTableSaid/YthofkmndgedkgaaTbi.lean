/- The table of the numbers of components: the program's. -/
import Derived.Test.YthofkmndgedkgaaNwt
import Derived.Test.YthofkmndgedkgaaOn
namespace Go.Proofs.Ythofkmndgedkgaa
open Go.RowKit
set_option linter.unusedVariables false
set_option linter.unusedSimpArgs false
theorem idx_inj {n i j k q : Nat} (hj : j < n) (hq : q < n) (h : i * n + j = k * n + q) : i = k ∧ j = q := by
  rcases Nat.lt_trichotomy i k with h1 | h1 | h1
  · have := Nat.mul_le_mul_right n (show i + 1 ≤ k by omega)
    rw [Nat.succ_mul] at this; omega
  · subst h1; exact ⟨rfl, by omega⟩
  · have := Nat.mul_le_mul_right n (show k + 1 ≤ i by omega)
    rw [Nat.succ_mul] at this; omega
/-- The table is filled up to the place q of the row k. -/
def Fil (m : Nat) (LL : List (List UInt8)) (n : Nat) (ns : List Int) (k q : Nat) : Prop := ∀ i j, i < n → j < n → (i < k ∨ (i = k ∧ j < q)) → ns.getD (i * n + j) 0 = (tbN m LL i j : Int)
theorem Fil.row {m n k : Nat} {LL : List (List UInt8)} {ns : List Int} (h : Fil m LL n ns k n) : Fil m LL n ns (k + 1) 0 := fun i j hi hj hh => h i j hi hj (by omega)
theorem Fil.set {m n k q : Nat} {LL : List (List UInt8)} {ns : List Int} (h : Fil m LL n ns k q) (hk : k < n) (hq : q < n) (hl : k * n + q < ns.length) : Fil m LL n (ns.set (k * n + q) (tbN m LL k q : Int)) k (q + 1) := fun i j hi hj hh => by
  by_cases e : i * n + j = k * n + q
  · obtain ⟨rfl, rfl⟩ := idx_inj hj hq e
    rw [List.getD_eq_getElem?_getD]; simp [hl]
  · have hne : ¬ (i = k ∧ j = q) := fun h => e (by rw [h.1, h.2])
    rw [List.getD_eq_getElem?_getD, List.getElem?_set_ne (by omega), ← List.getD_eq_getElem?_getD]
    exact h i j hi hj (by omega)
set_option maxRecDepth 100000 in
set_option maxHeartbeats 4000000 in
theorem tbI_ok (m : Nat) (h1 : 1 ≤ m) (h6 : m ≤ 6) (n : Nat) (hn : (allH (2 * m) 0).length = n) (h0 : 1 ≤ n) (w : World) :
    Calls Try.prog 75 #[.int .i64 m] w fun e w' => ∃ g1 g2 cs ns, w.heap.size ≤ g1 ∧ w.heap.size ≤ g2 ∧ e = .returned (.slice (some ⟨g2, 0, none⟩) n n) ∧ Own w' g1 (icells ns) 2 ∧ Own w' g2 cs 35 ∧ Rof cs g1 n n ∧ ns.length = n * n ∧ Fil m (allH (2 * m) 0) n ns n 0 ∧ Below w.heap.size w w' := by
  have hlen := allH_len12 m h1 h6
  rw [hn] at hlen
  have hL := Lib.hid (fun w => lia_ok m h1 h6 n hn w)
  have hW := Lib.hid (fun w => nwt_ok n h0 (by omega) w)
  have hS := Lib.hid (fun k hk => all_sys m h1 h6 k hk)
  have HN := Lib.hid hn
  generalize allH (2 * m) 0 = LL at *
  clear hn
  go_enter Try.func75, Try.ntmps75
  go_wp2_with (first
    | (go_at_call 72; ((with_reducible refine (hL.out _).mono ?_); rintro e w1 ⟨gl, csl, hgl, rfl, hOl, hAL, hB1⟩))
    | (go_at_call 107; ((with_reducible refine (hW.out _).mono ?_); rintro e w2 ⟨cs, rfl, hO1, hO2, hRo, hB2⟩)))
  have hs1 := hB1.size
  have HR := Lib.hid hRo
  have HAL := Lib.hid hAL
  have HOl := Lib.hid hOl
  have hgl2 := hOl.lt
  clear hRo hAL hOl
  go_loopw [18] (fun i wr => ∃ (k : Nat) (ns : List Int), k ≤ n ∧ i = .int .i64 k ∧ Hid (ns.length = n * n) ∧ Hid (Fil m LL n ns k 0) ∧ Own wr w1.heap.size (icells ns) 2 ∧ Own wr (w1.heap.size + 1) cs 35 ∧ Below w1.heap.size w1 wr) (fun i _ => ((n : Int) - intOf i).toNat)
  case atStart => exact ⟨0, _, by omega, rfl, Lib.hid (by simp), Lib.hid (fun i j hi hj hh => by omega), hO1, hO2, hB2⟩
  case round =>
    clear hO1 hO2 hB2
    obtain ⟨k, ns, hk, rfl, hnl, hF, hO1, hO2, hB⟩ := hrel
    by_cases hlt : k < n
    · obtain ⟨p1, p2⟩ := hS.out k (by rw [HN.out]; exact hlt)
      have hSk := Lib.hid (sysO_sys p1 p2)
      obtain ⟨ga, a1, a2, a3⟩ := HAL.out k hlt
      have c1 : wr.cell? ⟨gl, k, none⟩ = some (.slice (some ⟨ga, 0, none⟩) (2 * m) (2 * m)) := by rw [(HOl.out.below hB hgl2).cell]; exact a2
      have hc3 := Lib.hid (HR.out.2 k hlt)
      have i1 : (k : Int) < (n : Int) := by omega
      have hkn := Nat.mul_le_mul_right n (show k + 1 ≤ n by omega)
      rw [Nat.succ_mul] at hkn
      obtain ⟨w2, rfl⟩ : ∃ x, x = wr := ⟨_, rfl⟩
      have HA3 := Lib.hid a3
      have hga := Own.lt a3
      clear a1 a2 a3 p1 p2
      go_wp2
      go_loopw [25] (fun j wr => ∃ (q : Nat) (ns : List Int), q ≤ n ∧ j = .int .i64 q ∧ Hid (ns.length = n * n) ∧ Hid (Fil m LL n ns k q) ∧ Own wr w1.heap.size (icells ns) 2 ∧ Own wr (w1.heap.size + 1) cs 35 ∧ Below w1.heap.size w1 wr) (fun j _ => ((n : Int) - intOf j).toNat)
      case atStart => exact ⟨0, ns, by omega, rfl, hnl, hF, hO1, hO2, hB⟩
      case round =>
        clear hnl hF hO1 hO2 hB c1
        obtain ⟨q, ns, hq, rfl, hnl, hF, hO1, hO2, hB⟩ := hrel
        by_cases hlt2 : q < n
        · obtain ⟨p1, p2⟩ := hS.out q (by rw [HN.out]; exact hlt2)
          have hSq := sysO_sys p1 p2
          obtain ⟨gb, a1, a2, a3⟩ := HAL.out q hlt2
          have c2 : wr.cell? ⟨gl, q, none⟩ = some (.slice (some ⟨gb, 0, none⟩) (2 * m) (2 * m)) := by rw [(HOl.out.below hB hgl2).cell]; exact a2
          have i2 : (q : Int) < (n : Int) := by omega
          have hC := Lib.hid (show ∀ w8, Below w1.heap.size w1 w8 → Calls Try.prog 73 #[.slice (some ⟨ga, 0, none⟩) (2 * m) (2 * m), .slice (some ⟨gb, 0, none⟩) (2 * m) (2 * m)] w8 fun e w' => e = .returned (.int .i64 (tbN m LL k q : Nat)) ∧ Below w8.heap.size w8 w' from fun w8 hb => ctc_any (2 * m) _ _ hSk.out hSq ga gb w8 (Own.below HA3.out hb hga) (Own.below a3 hb (Own.lt a3)))
          have hfs := Lib.hid (Fil.set hF.out hlt hlt2 (by rw [hnl.out]; omega))
          have hsl := Lib.hid (show (ns.set (k * n + q) (tbN m LL k q : Int)).length = n * n by rw [List.length_set]; exact hnl.out)
          have hin := Lib.hid (show k * n + q < ns.length by rw [hnl.out]; omega)
          obtain ⟨x, hx⟩ : ∃ x, tbN m LL k q = x := ⟨_, rfl⟩
          rw [hx] at hC hfs hsl
          obtain ⟨A, hA⟩ : ∃ A, k * n = A := ⟨_, rfl⟩
          have hc3' := hc3.out
          rw [hA] at hfs hsl hin hc3'
          have hc4 := Lib.hid hc3'
          clear hc3' hx hA a1 a2 a3 p1 p2 hSq hnl hF
          go_wp2
          refine wp_region_on (fun w' => Own w' w1.heap.size (icells ns) 2 ∧ Own w' (w1.heap.size + 1) cs 35 ∧ Below w1.heap.size w1 w') [0, 1, 2, 3, 4, 5, 6] [7] 8 (by kernel_rfl) (by kernel_rfl) ⟨hO1.drewN 1, hO2.drewN 1, Below.drewN hB 1⟩ ?_
          simp only [List.map_cons, List.map_nil, opN_zero, opN_succ, List.drop_succ_cons, List.drop_zero]
          clear hO1 hO2 hB c2
          (apply wpOn_step; · (intro wd hS K hK; have d3 := hS.2.1.cell k; rw [hc4.out] at d3; clear hS; go_simp; exact hK))
          (apply wpOn_step; · (intro wd hS K hK; have d3 := hS.2.1.cell k; rw [hc4.out] at d3; clear hS; go_simp; exact hK))
          (apply wpOn_step; · (intro wd hS K hK; have d3 := hS.2.1.cell k; rw [hc4.out] at d3; clear hS; go_simp; exact hK))
          (apply wpOn_step; · (intro wd hS K hK; have d3 := hS.2.1.cell k; rw [hc4.out] at d3; clear hS; go_simp; exact hK))
          (apply wpOn_step; · (intro wd hS K hK; have d3 := hS.2.1.cell k; rw [hc4.out] at d3; clear hS; go_simp; exact hK))
          (apply wpOn_step; · (intro wd hS K hK; have d3 := hS.2.1.cell k; rw [hc4.out] at d3; clear hS; go_simp; exact hK))
          (apply wpOn_step; · (intro wd hS K hK; have d3 := hS.2.1.cell k; rw [hc4.out] at d3; clear hS; go_simp; exact hK))
          refine wpOn_nil ?_
          rintro w8 ⟨hO1, hO2, hB⟩
          refine wpMid_step (fun K hK => ?_)
          go_wp2_with (first
            | (go_at_call 73; ((with_reducible refine (hC.out w8 hB).mono ?_); rintro e w9 ⟨rfl, hB9⟩)))
          refine hK _ _ ⟨hO1.below hB9 hO1.lt, hO2.below hB9 hO2.lt, hB.trans (hB9.mono hB.size)⟩ ?_
          clear hK K
          refine wpMid_nil ?_
          have hO3 := hO1.below hB9 hO1.lt
          have d3 := (hO2.below hB9 hO2.lt).cell k
          rw [hc4.out] at d3
          have c5 := hO3.cell (A + q)
          rw [icells_get _ _ hin.out] at c5
          have f5 := hO3.free (A + q)
          have hO4 := hO3.set (A + q) (.int .i64 (x : Nat))
          rw [icells_set] at hO4
          have K1 := Lib.hid hO4
          have K2 := Lib.hid ((hO2.below hB9 hO2.lt).other (a := ⟨w1.heap.size, A + q, none⟩) (by show w1.heap.size ≠ w1.heap.size + 1; omega) (.int .i64 (x : Nat)))
          have K3 := Lib.hid ((hB.trans (hB9.mono hB.size)).setCell (p := ⟨w1.heap.size, A + q, none⟩) (Nat.le_refl _) (.int .i64 (x : Nat)))
          clear hO4 hO3 hO1 hO2 hB hB9
          go_wp2
          go_roundw
          case rel => exact ⟨q + 1, _, by omega, by go_num, hsl, hfs, K1.out, K2.out, K3.out⟩
          case measure => simp [intOf]; omega
        · have e : q = n := by omega
          subst e
          have hF2 := Lib.hid hF.out.row
          clear hF
          go_wp2
          go_roundw
          case rel => exact ⟨k + 1, ns, by omega, by go_num, hnl, hF2, hO1, hO2, hB⟩
          case measure => simp [intOf]; omega
    · have e : k = n := by omega
      subst e
      go_wp2
      go_ret
      exact ⟨_, _, cs, ns, hs1, by omega, rfl, hO1, hO2, HR.out, hnl.out, hF.out, hB1.trans (hB.mono hs1)⟩
end Go.Proofs.Ythofkmndgedkgaa
