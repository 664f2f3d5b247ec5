/- CountWithRainbow: the program's, the model's, the law. -/
import Derived.Test.YthofkmndgedkgaaRnb
import Derived.Test.YthofkmndgedkgaaCts
namespace Go.Proofs.Ythofkmndgedkgaa
open Go.RowKit Go.BigFrame
set_option linter.unusedVariables false
set_option linter.unusedSimpArgs false
/-- A meander with the rainbow. -/
def pRb (m : Nat) (t : List UInt8) : Bool := decide (comps (mf (sysO t)) (mf (rbO m)) (2 * m) = 1)
theorem rbO_sys (m : Nat) (h1 : 1 ≤ m) (h6 : m ≤ 6) : Sys (2 * m) (rbO m) := by
  have h := sarc_sys (rb_sys m h1 h6).1
  rw [size_list, rbS, strT_size] at h; exact h
theorem sysO_sys {m : Nat} {t : List UInt8} (h : sarc t = some (sysO t)) (h2 : t.length = 2 * m) : Sys (2 * m) (sysO t) := by
  have := sarc_sys h
  rw [h2] at this; exact this
set_option maxRecDepth 100000 in
set_option maxHeartbeats 1000000 in
theorem cwI_ok (m : Nat) (h1 : 1 ≤ m) (h6 : m ≤ 6) (n : Nat) (hn : (allH (2 * m) 0).length = n) (w : World) :
    Calls Try.prog 18 #[.int .i64 m] w fun e w' => e = .returned (.tuple #[.int .i64 (cnt (pRb m) (allH (2 * m) 0) n : Nat), .int .i64 0]) ∧ Below w.heap.size w w' := by
  have hlen := allH_len12 m h1 h6
  rw [hn] at hlen
  have hA := Lib.hid (fun w => areI_t (m : Int) 6 w (by omega) (by omega))
  have hR := Lib.hid (fun w => (rainbow_any m h1 h6 w).mono fun e w' (h : ∃ g, w.heap.size ≤ g ∧ e = .returned (.slice (some ⟨g, 0, none⟩) (2 * m : Nat) (2 * m : Nat)) ∧ Own w' g (icells (rbL m m)) 2 ∧ Below w.heap.size w w') => show ∃ g, e = .returned (.slice (some ⟨g, 0, none⟩) (2 * m : Nat) (2 * m : Nat)) ∧ Arc w' g (2 * m) (rbO m) ∧ Below w.heap.size w w' from by
    obtain ⟨g, q1, q2, q3, q4⟩ := h
    exact ⟨g, q2, by unfold Arc; rw [(rb_sys m h1 h6).2]; exact q3, q4⟩)
  have hL := Lib.hid (fun w => lia_ok m h1 h6 n hn w)
  have hSR := Lib.hid (rbO_sys m h1 h6)
  have hS := Lib.hid (fun k hk => all_sys m h1 h6 k hk)
  have HN := Lib.hid hn
  generalize allH (2 * m) 0 = LL at *
  clear hn
  go_enter Try.func18, Try.ntmps18
  go_wp2_with (first
    | (go_at_call 66; ((with_reducible refine (hA.out _).mono ?_); rintro e w0 ⟨rfl, rfl⟩))
    | (go_at_call 71; ((with_reducible refine (hR.out _).mono ?_); rintro e w1 ⟨gr, rfl, hAr, hB1⟩))
    | (go_at_call 72; ((with_reducible refine (hL.out _).mono ?_); rintro e w2 ⟨g, cs, hg, rfl, hO, hAL, hB2⟩)))
  have hAr2 : Arc w2 gr (2 * m) (rbO m) := Own.below hAr hB2 (Own.lt hAr)
  have b2 := hB1.trans (hB2.mono hB1.size)
  go_loopw [5, 16] (fun q i wr => ∃ k : Nat, k ≤ n ∧ i = .int .i64 k ∧ q = .int .i64 (cnt (pRb m) LL k : Nat) ∧ Below w2.heap.size w2 wr) (fun _ i _ => ((n : Int) - intOf i).toNat)
  case atStart => exact ⟨0, by omega, rfl, rfl, Below.refl _ _⟩
  case round =>
    obtain ⟨k, hk, rfl, rfl, hB⟩ := hrel
    by_cases hlt : k < n
    · obtain ⟨q1, q2⟩ := hS.out k (by rw [HN.out]; exact hlt)
      have hSk := sysO_sys q1 q2
      obtain ⟨ga, g1, g2, g3⟩ := hAL k hlt
      have hle := cnt_le (pRb m) LL k
      have c1 : wr.cell? ⟨g, k, none⟩ = some (.slice (some ⟨ga, 0, none⟩) (2 * m : Nat) (2 * m : Nat)) := by rw [(hO.below hB hO.lt).cell]; exact g2
      have hC := Lib.hid (ctc_any (2 * m) _ _ hSk hSR.out ga gr wr (Own.below g3 hB (Own.lt g3)) (Own.below hAr2 hB (Own.lt hAr2)))
      have i1 : (k : Int) < (n : Int) := by omega
      have ht := @cnt_t (pRb m) LL k
      have hf := @cnt_f (pRb m) LL k
      unfold pRb at ht hf
      obtain ⟨x, hx⟩ : ∃ x, comps (mf (sysO (LL.getD k []))) (mf (rbO m)) (2 * m) = x := ⟨_, rfl⟩
      rw [hx] at hC ht hf
      obtain ⟨cc, hcc⟩ : ∃ c, cnt (pRb m) LL k = c := ⟨_, rfl⟩
      have ht2 : x = 1 → cnt (pRb m) LL (k + 1) = cnt (pRb m) LL k + 1 := fun e => ht (by simp [e])
      have hf2 : ¬ x = 1 → cnt (pRb m) LL (k + 1) = cnt (pRb m) LL k := fun e => hf (by simp [e])
      rw [hcc] at ht2 hf2 hle
      have HC := Lib.hid hcc
      clear q1 q2 hSk g1 g2 g3 hx ht hf
      by_cases e1 : x = 1
      · have HT := Lib.hid (ht2 e1)
        subst e1
        clear ht2 hf2
        rw [hcc]
        clear hcc
        go_wp2_with (first
          | (go_at_call 73; ((with_reducible refine (hC.out).mono ?_); rintro e w4 ⟨rfl, hB4⟩)))
        go_roundw
        case rel => exact ⟨k + 1, by omega, by go_num, by rw [HT.out]; go_num, hB.trans (hB4.mono hB.size)⟩
        case measure => simp [intOf]; omega
      · have HT := Lib.hid (hf2 e1)
        have e2 : ((x : Int) == 1) = false := by simp; omega
        clear ht2 hf2 e1
        rw [hcc]
        clear hcc
        go_wp2_with (first
          | (go_at_call 73; ((with_reducible refine (hC.out).mono ?_); rintro e w4 ⟨rfl, hB4⟩)))
        go_roundw
        case rel => exact ⟨k + 1, by omega, by go_num, by rw [HT.out], hB.trans (hB4.mono hB.size)⟩
        case measure => simp [intOf]; omega
    · have e : k = n := by omega
      subst e
      go_wp2
      go_ret2
      exact ⟨rfl, b2.trans (hB.mono b2.size)⟩
theorem cwI_bad (m : Int) (h : m < 1 ∨ 6 < m) (w : World) : Calls Try.prog 18 #[.int .i64 m] w fun e w' => e = .returned (.tuple #[.int .i64 0, .int .i64 2]) ∧ Below w.heap.size w w' := by
  have hA := Lib.hid (fun w => areI_f m 6 w h)
  clear h
  go_enter Try.func18, Try.ntmps18
  go_wp2_with (first
    | (go_at_call 66; ((with_reducible refine (hA.out _).mono ?_); rintro e w0 ⟨rfl, rfl⟩)))
  go_ret2
  exact ⟨rfl, Below.refl _ _⟩
theorem cwS_bad (m : Int) (h : m < 1 ∨ 6 < m) (w : World) : Calls Try.prog 17 #[.int .i64 m] w fun e w' => e = .returned (.tuple #[.int .i64 0, .int .i64 2]) ∧ Below w.heap.size w w' := by
  have hA := Lib.hid (fun w => inS_f m 1 6 w h)
  clear h
  go_enter Try.func17, Try.ntmps17
  go_wp2_with (first
    | (go_at_call 64; ((with_reducible refine (hA.out _).mono ?_); rintro e w0 ⟨rfl, rfl⟩)))
  go_ret2
  exact ⟨rfl, Below.refl _ _⟩
set_option maxRecDepth 100000 in
set_option maxHeartbeats 1000000 in
theorem cwS_ok (m : Nat) (h1 : 1 ≤ m) (h6 : m ≤ 6) (n : Nat) (hn : (allH (2 * m) 0).length = n) (w : World) :
    Calls Try.prog 17 #[.int .i64 m] w fun e w' => e = .returned (.tuple #[.int .i64 (cnt (pRb m) (allH (2 * m) 0) n : Nat), .int .i64 0]) ∧ Below w.heap.size w w' := by
  have hlen := allH_len12 m h1 h6
  rw [hn] at hlen
  have hA := Lib.hid (fun w => inS_t (m : Int) 1 6 w (by omega) (by omega))
  have hL := Lib.hid (fun w => (allS_ok m h1 h6 w).mono fun e w' (h : TxPost w.heap.size [] (allH (2 * m) 0) w e w') => show ∃ g cap, e = .returned (.slice (some ⟨g, 0, none⟩) n cap) ∧ TMn w' w.heap.size (some ⟨g, 0, none⟩) (bsl (allH (2 * m) 0)) ∧ Below w.heap.size w w' from by
    obtain ⟨g, cap, rfl, hI, hB⟩ := h
    rw [List.nil_append] at hI ⊢
    exact ⟨g, cap, by rw [stval, bsl_len, hn], TMn.strs (Nat.le_refl _) hI, hB⟩)
  have hRb := Lib.hid (fun w => rbS_any m h1 h6 w)
  have hRs := Lib.hid (rb_sys m h1 h6).1
  have hRz := Lib.hid (show (rbS m).size = 2 * m from by rw [rbS, strT_size])
  have hS := Lib.hid (fun k hk => all_sys m h1 h6 k hk)
  have HN := Lib.hid hn
  have HG := Lib.hid (fun j h => bsl_get (allH (2 * m) 0) j h)
  generalize allH (2 * m) 0 = LL at *
  obtain ⟨R, hR⟩ : ∃ R, rbS m = R := ⟨_, rfl⟩
  rw [hR] at hRb hRs hRz
  clear hn hR
  go_enter Try.func17, Try.ntmps17
  go_wp2_with (first
    | (go_at_call 64; ((with_reducible refine (hA.out _).mono ?_); rintro e w0 ⟨rfl, rfl⟩))
    | (go_at_call 65; ((with_reducible refine (hL.out _).mono ?_); rintro e w1 ⟨g, cap, rfl, hT, hB1⟩)))
  have hT1 := hT.rd
  go_loopw [5, 6] (fun q i wr => ∃ k : Nat, k ≤ n ∧ i = .int .i64 k ∧ q = .int .i64 (cnt (pRb m) LL k : Nat) ∧ Below w1.heap.size w1 wr) (fun _ i _ => ((n : Int) - intOf i).toNat)
  case atStart => exact ⟨0, by omega, rfl, rfl, Below.refl _ _⟩
  case round =>
    obtain ⟨k, hk, rfl, rfl, hB⟩ := hrel
    by_cases hlt : k < n
    · have hlt' : k < LL.length := by rw [HN.out]; exact hlt
      obtain ⟨q1, q2⟩ := hS.out k hlt'
      have c1 := (hT1.below hB).cell _ rfl k (by rw [bsl_len]; exact hlt')
      rw [HG.out k hlt', show (⟨g, 0, none⟩ : Addr).add k = ⟨g, k, none⟩ by rw [Addr.add_mid, Nat.zero_add]] at c1
      have hle := cnt_le (pRb m) LL k
      have ht := @cnt_t (pRb m) LL k
      have hf := @cnt_f (pRb m) LL k
      unfold pRb at ht hf
      obtain ⟨t, hte⟩ : ∃ t, LL.getD k [] = t := ⟨_, rfl⟩
      rw [hte] at q1 q2 c1 ht hf
      have hC := fun w => cts_any (bsv t) R (by rw [bsv_size]; omega) (by rw [hRz.out]; omega) (sysO t) (rbO m) (by rw [bsv_list]; exact q1) hRs.out (2 * m) (by rw [bsv_size]; exact q2) hRz.out w
      obtain ⟨x, hx⟩ : ∃ x, comps (mf (sysO t)) (mf (rbO m)) (2 * m) = x := ⟨_, rfl⟩
      obtain ⟨s, hs⟩ : ∃ s, bsv t = s := ⟨_, rfl⟩
      simp only [hx, hs] at hC
      rw [hx] at ht hf
      rw [hs] at c1
      have ht2 : x = 1 → cnt (pRb m) LL (k + 1) = cnt (pRb m) LL k + 1 := fun e => ht (by simp [e])
      have hf2 : ¬ x = 1 → cnt (pRb m) LL (k + 1) = cnt (pRb m) LL k := fun e => hf (by simp [e])
      obtain ⟨cc, hcc⟩ : ∃ c, cnt (pRb m) LL k = c := ⟨_, rfl⟩
      rw [hcc] at ht2 hf2 hle
      have HC := Lib.hid hcc
      have i1 : (k : Int) < (n : Int) := by omega
      have x0 := fun d os => cell_regrown c1 d os
      have ci : ∀ d os, Calls Try.prog 69 #[.string s, .string R] (Sort.grow (redrawn wr d) os) fun e w'' => e = .returned (.int .i64 (x : Nat)) ∧ ∃ p : Regrown, w'' = Sort.grow (redrawn wr p.d) p.os := fun d os => Calls.regrown_of (hC _)
      have cr : ∀ d os, Calls Try.prog 70 #[.int .i64 m] (Sort.grow (redrawn wr d) os) fun e w'' => e = .returned (.string R) ∧ ∃ p : Regrown, w'' = Sort.grow (redrawn wr p.d) p.os := fun d os => Calls.regrown_of (hRb.out _)
      clear q1 q2 hx hs hC ht hf hte hlt'
      rw [hcc]
      clear hcc
      by_cases e1 : x = 1
      · have HT := Lib.hid (ht2 e1)
        subst e1
        clear ht2 hf2
        go_wp2
        refine wp_region_quiet_below (by kernel_rfl) (by kernel_rfl) ?_
        iterate 8 (go_big_quiet_step (first | exact ci _ _ | exact cr _ _))
        refine wpQuiet_nil ?_
        intro _ hw'
        obtain ⟨⟨dq, osq⟩, hw''⟩ := hw'
        subst hw''
        have b3 := hB.trans ((below_regrown wr dq osq).mono hB.size)
        go_wp2
        go_roundw
        case rel => exact ⟨k + 1, by omega, by go_num, by rw [HT.out]; go_num, b3⟩
        case measure => simp [intOf]; omega
      · have HT := Lib.hid (hf2 e1)
        have e2 : ((x : Int) == 1) = false := by simp; omega
        clear ht2 hf2 e1
        go_wp2
        refine wp_region_quiet_below (by kernel_rfl) (by kernel_rfl) ?_
        iterate 8 (go_big_quiet_step (first | exact ci _ _ | exact cr _ _))
        refine wpQuiet_nil ?_
        intro _ hw'
        obtain ⟨⟨dq, osq⟩, hw''⟩ := hw'
        subst hw''
        have b3 := hB.trans ((below_regrown wr dq osq).mono hB.size)
        go_wp2
        go_roundw
        case rel => exact ⟨k + 1, by omega, by go_num, by rw [HT.out], b3⟩
        case measure => simp [intOf]; omega
    · have e : k = n := by omega
      subst e
      go_wp2
      go_ret2
      exact ⟨rfl, hB1.trans (hB.mono hB1.size)⟩
theorem cw_law (m : Int) (w : World) :
    Calls Try.prog 4 #[.int .i64 m] w fun e w' => e = .returned (.bool true) ∧ Below w.heap.size w w' := by
  obtain ⟨x, c, hS, hI⟩ : ∃ (x c : Int), (∀ w, Calls Try.prog 17 #[.int .i64 m] w fun e w' => e = .returned (.tuple #[.int .i64 x, .int .i64 c]) ∧ Below w.heap.size w w') ∧ (∀ w, Calls Try.prog 18 #[.int .i64 m] w fun e w' => e = .returned (.tuple #[.int .i64 x, .int .i64 c]) ∧ Below w.heap.size w w') := by
    by_cases h : 1 ≤ m ∧ m ≤ 6
    · obtain ⟨M, rfl⟩ : ∃ M : Nat, m = M := ⟨m.toNat, by omega⟩
      exact ⟨_, _, fun w => cwS_ok M (by omega) (by omega) _ rfl w, fun w => cwI_ok M (by omega) (by omega) _ rfl w⟩
    · exact ⟨_, _, fun w => cwS_bad m (by omega) w, fun w => cwI_bad m (by omega) w⟩
  have hS := Lib.hid hS
  have hI := Lib.hid hI
  go_enter Try.func4, Try.ntmps4
  go_wp2_with (first
    | (go_at_call 17; ((with_reducible refine (hS.out _).mono ?_); rintro e w1 ⟨rfl, hB1⟩))
    | (go_at_call 18; ((with_reducible refine (hI.out _).mono ?_); rintro e w2 ⟨rfl, hB2⟩)))
  go_ret
  exact ⟨rfl, hB1.trans (hB2.mono hB1.size)⟩
end Go.Proofs.Ythofkmndgedkgaa
