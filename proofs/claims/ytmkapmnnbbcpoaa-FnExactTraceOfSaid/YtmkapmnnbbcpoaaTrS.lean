/- Traces of elements: the model's, and the law. -/
import Derived.Test.YtmkapmnnbbcpoaaTr
import Derived.Test.YtmkapmnnbbcpoaaLawEl
namespace Go.Proofs.Ytmkapmnnbbcpoaa
open Go.RowKit Go.BigFrame
set_option linter.unusedVariables false
set_option maxRecDepth 100000 in
set_option maxHeartbeats 4000000 in
theorem traceS_sum (p c n : Int) (q : Option Addr) (cap : Nat) (ts : List Tm) (hts : ∀ t ∈ ts, t.2.1.length = 16 ∧ Bytes t.2.1) (w : World) (hR : RdT w q ts) (h : elB p c n ts = true) :
    Calls Try.prog 75 #[.agg (ecl p c n (.slice q ts.length cap))] w fun e w' => e = .returned (.int .i64 (trS p c ts ts.length)) ∧ Below w.heap.size w w' := by
  obtain ⟨hpr, hp, hp2, c0, c1, n1, n8, h140, hT⟩ := elB_spec h
  have htm := Lib.hid (elT_term hT)
  have hok := Lib.hid (fun j (hj : j < ts.length) => hts (ts.getD j zT) (by rw [List.getD_eq_getElem?_getD, List.getElem?_eq_getElem hj]; exact List.getElem_mem hj))
  have e0 : (p == 0) = false := by simp; omega
  obtain ⟨l, hl⟩ : ∃ l, ts.length = l := ⟨_, rfl⟩
  have hL := Lib.hid hl
  have hR' := Lib.hid hR
  have hrg := Lib.hid (trS_rng (c := c) hp ts)
  rw [hl] at h140 ⊢
  clear hpr hR h hts hT hl
  go_enter Try.func75, Try.ntmps75
  unfold ecl at *
  go_wp2
  go_loopw [3, 4] (fun v i wr => ∃ k : Nat, k ≤ l ∧ i = .int .i64 k ∧ v = .int .i64 (trS p c ts k) ∧ Own wr w.heap.size #[.int .i64 p, .int .i64 c, .int .i64 n, .slice q l cap] 29 ∧ Below w.heap.size w wr) (fun _ i _ => ((l : Int) - intOf i).toNat)
  case atStart => exact ⟨0, by omega, rfl, rfl, Own.new _ _ _, (Below.refl _ _).alloc (Nat.le_refl _) _⟩
  case round =>
    obtain ⟨k, hk, rfl, rfl, hO, hB⟩ := hrel
    have y3 : wr.cell? ⟨w.heap.size, 3, none⟩ = some (.slice q l cap) := hO.cell 3
    have hrk := hrg.out k
    by_cases hlt : k < l
    · have hkt : k < ts.length := by rw [hL.out]; exact hlt
      have hltI : (k : Int) < l := by omega
      cases q with
      | none => exfalso; have h1 := hR'.out.nil rfl; rw [h1] at hkt; simp at hkt
      | some a =>
        have hc := (hR'.out.below hB).cell a rfl k hkt
        obtain ⟨hn, hd, k1, kp⟩ := htm.out k hkt
        obtain ⟨ht16, htb⟩ := hok.out k hkt
        have hstep := Lib.hid (show trS p c ts (k + 1) = (trS p c ts k + smT p c (ts.getD k zT)) % p from rfl)
        obtain ⟨⟨tn, tms, tk⟩, ht⟩ : ∃ t, ts.getD k zT = t := ⟨_, rfl⟩
        rw [ht] at hc hn hd k1 kp ht16 htb hstep
        replace hn : tn = n := hn
        replace k1 : 1 ≤ tk := k1
        replace kp : tk < p := kp
        subst hn
        have hS := (isD_iff tn tms ht16 htb).1 hd
        have hbd := cloL_bd tn tms (2 * tn).toNat
        obtain ⟨lp, hlp⟩ : ∃ lp : Nat, (cloL tn tms (2 * tn).toNat).2 = lp := ⟨(cloL tn tms (2 * tn).toNat).2.toNat, by omega⟩
        have hlp2 : lp ≤ 1000 := by omega
        have cC : ∀ d os, Calls Try.prog 108 #[.agg (dcells tn tms)] (Sort.grow (redrawn wr d) os) fun e w'' => e = .returned (.int .i64 (lp : Int)) ∧ ∃ p : Regrown, w'' = Sort.grow (redrawn wr p.d) p.os := fun d os => Calls.regrown_of (by
          have := cloS_any tn tms ht16 htb hS (Sort.grow (redrawn wr d) os)
          rw [hlp] at this
          exact this)
        have cP : ∀ d os, Calls Try.prog 82 #[.int .i64 p, .int .i64 c, .int .i64 lp] (Sort.grow (redrawn wr d) os) fun e w'' => e = .returned (.int .i64 (pw p c lp)) ∧ ∃ p : Regrown, w'' = Sort.grow (redrawn wr p.d) p.os := fun d os => Calls.regrown_of ((powS_any p c lp _ hp hp2 c0 c1 hlp2).mono fun e w' h => ⟨h.1, h.2 ▸ Below.refl _ _⟩)
        have hsm := Lib.hid (show smT p c (tn, tms, tk) = tk * pw p c lp by unfold smT lpT; rw [hlp]; rfl)
        rw [hsm.out] at hstep
        have x0 := cell_regrown (show wr.cell? ⟨w.heap.size, 0, none⟩ = some (.int .i64 p) from hO.cell 0)
        have x1 := cell_regrown (show wr.cell? ⟨w.heap.size, 1, none⟩ = some (.int .i64 c) from hO.cell 1)
        have x3 := cell_regrown (show wr.cell? ⟨w.heap.size, 3, none⟩ = some (.slice (some a) l cap) from hO.cell 3)
        have qk2 := cell_regrown (show wr.cell? { block := (a.add (k * 18)).block, off := (a.add (k * 18)).off + 17, spot := none } = some (.int .i64 tk) from hc 17 _ (by show ((dcells tn tms).toList ++ [_])[17]? = _; rw [List.getElem?_append_right (by rw [dl17 ht16]; exact Nat.le_refl _), dl17 ht16]; rfl))
        have ld := loadD_grown tn tms ht16 (a.add (k * 18)) wr (fun i v hi => hc i v (by show ((dcells tn tms).toList ++ [_])[i]? = _; rw [List.getElem?_append_left (List.getElem?_eq_some_iff.1 hi).1]; exact hi))
        have hpw := pw_range p c hp lp
        obtain ⟨P, hP⟩ : ∃ P, pw p c lp = P := ⟨_, rfl⟩
        rw [hP] at cP hpw hstep
        have hmul := bnd_mul p tk P 0 hp hp2 (by omega) kp hpw.1 hpw.2
        obtain ⟨M, hM⟩ : ∃ M, tk * P = M := ⟨_, rfl⟩
        rw [hM] at hmul hstep
        have wM : IntKind.i64.wrap M = M := IntWalk.i64_in _ (by omega)
        obtain ⟨V, hV⟩ : ∃ V, trS p c ts k = V := ⟨_, rfl⟩
        rw [hV] at hrk hstep ⊢
        have wV : IntKind.i64.wrap (V + M) = V + M := IntWalk.i64_in _ (by have := hrk.1; have := hrk.2; have := hmul.1; have := hmul.2; omega)
        have tV : (V + M).tmod p = (V + M) % p := Int.tmod_eq_emod_of_nonneg (Int.add_nonneg hrk.1 hmul.1)
        have r0 := Int.emod_nonneg (V + M) (show p ≠ 0 by omega)
        have r1 := Int.emod_lt_of_pos (V + M) (show 0 < p by omega)
        obtain ⟨Z, hZ⟩ : ∃ Z, (V + M) % p = Z := ⟨_, rfl⟩
        rw [hZ] at r0 r1 tV hstep
        have wR : IntKind.i64.wrap Z = Z := IntWalk.i64_in _ (by omega)
        have hst2 := Lib.hid hstep.out
        have hO' := Lib.hid hO
        have hB' := Lib.hid hB
        have hc' := Lib.hid hc
        clear hV hP hstep hS hbd hd ht ht16 htb hO hc hB
        go_wp2_with fail
        refine wp_region_quiet_below (by kernel_rfl) (by kernel_rfl) ?_
        iterate 16 (go_big_quiet_step (fail))
        go_big_quiet_want
        refine quiet_ld 38 (.tmp 27) rfl (a.add (k * 18)) (by first | rfl | simp) _ (fun w' h => by obtain ⟨pp, rfl⟩ := h; exact ld _ _) ?_
        go_frame
        go_big_quiet_on
        iterate 8 (go_big_quiet_step (first | exact cC _ _ | exact cP _ _))
        refine wpQuiet_nil ?_
        intro _ hw'
        obtain ⟨⟨dq, osq⟩, hw''⟩ := hw'
        subst hw''
        have b3 := hB'.out.trans ((below_regrown wr dq osq).mono hB'.out.size)
        have hX3 := hO'.out.below (below_regrown wr dq osq) hO'.out.lt
        generalize Sort.grow (redrawn wr dq) osq = w3 at hX3 b3 ⊢
        go_wp2
        go_roundw
        case rel => exact ⟨k + 1, by omega, by go_num, by rw [hst2.out], hX3, b3⟩
        case measure => simp [intOf]; omega
    · obtain rfl : k = l := by omega
      go_wp2
      go_ret
      exact ⟨rfl, hB⟩
end Go.Proofs.Ytmkapmnnbbcpoaa
