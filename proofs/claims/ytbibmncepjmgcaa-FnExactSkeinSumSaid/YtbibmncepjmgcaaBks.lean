/- Brackets: the model. -/
import Derived.Test.YtbibmncepjmgcaaBkm
import Derived.Test.YtbibmncepjmgcaaBrs
namespace Go.Proofs.Ytbibmncepjmgcaa
open Go.RowKit Go.Lib Go.BigFrame
set_option linter.unusedVariables false
set_option linter.unusedSimpArgs false
set_option maxRecDepth 100000 in
set_option maxHeartbeats 8000000 in
theorem bktS_any (p a n : Int) (h : baseB p a = true) (h2 : 2 ≤ n) (h6 : n ≤ 6) (q0 : Option Addr) (cap : Nat) (xs : List Int) (hxl : xs.length ≤ 24) (hxs : ∀ x ∈ xs, x ≠ 0 ∧ -n < x ∧ x < n) (w : World) (hR : Rd w q0 xs) :
    Calls Try.prog 50 #[.int .i64 p, .int .i64 a, .int .i64 n, .slice q0 xs.length cap] w fun e w' => e = .returned (.int .i64 (bkV p (lvN p a) (brN p (lvN p a) n a (rcp p a) xs))) ∧ Below w.heap.size w w' := by
  obtain ⟨hpr, hp, hp2, a1, a2⟩ := baseB_t h
  have hel := Lib.hid (fun w hR => beoS_any p a n h h2 h6 q0 cap xs hxl hxs w hR)
  have hc0 : 0 ≤ lvN p a := Int.emod_nonneg _ (by omega)
  have hc1 : lvN p a < p := Int.emod_lt_of_pos _ (by omega)
  obtain ⟨c, hc⟩ : ∃ c, lvN p a = c := ⟨_, rfl⟩
  obtain ⟨b, hb⟩ : ∃ b, rcp p a = b := ⟨_, rfl⟩
  rw [hc] at hel hc0 hc1 ⊢
  rw [hb] at hel ⊢
  have hok0 := brN_ok (c := c) (a := a) (b := b) hp hp2 h2 h6 xs hxs xs.length (Nat.le_refl _)
  rw [List.take_length] at hok0
  obtain ⟨ts, hts⟩ : ∃ R, brN p c n a b xs = R := ⟨_, rfl⟩
  rw [hts] at hel hok0 ⊢
  have htm := Lib.hid (okE_term hok0)
  have hrg := Lib.hid (bkS_rng (c := c) hp ts)
  have hV := Lib.hid (show bkS p c ts ts.length = bkV p c ts from rfl)
  have h140 := hok0.2.2
  have h16 := good16 hok0.1
  have hrd := Lib.hid (fun W B g (h : MnT W B g ts) => h.rd h16)
  obtain ⟨R, hR9⟩ : ∃ R, bkV p c ts = R := ⟨_, rfl⟩
  rw [hR9] at hV ⊢
  obtain ⟨l, hl⟩ : ∃ l, ts.length = l := ⟨_, rfl⟩
  have hLL := Lib.hid hl
  rw [hl] at hel hV h140
  obtain ⟨m, hm⟩ : ∃ m, xs.length = m := ⟨_, rfl⟩
  rw [hm] at hel ⊢
  have hRx := Lib.hid hR
  have e0 : (p == 0) = false := by simp; omega
  clear h hpr hc hb hok0 hts h16 hl hm hR hxs hR9
  unfold ecl at *
  go_enter Try.func50, Try.ntmps50
  go_upto_region 2 with (first
    | (go_at_call 43; ((with_reducible refine (hel.out w hRx.out).mono ?_); rintro e w1 ⟨⟨g, cp, rfl, hM1⟩, hB1⟩)))
  have rT0 := hrd.out _ _ _ hM1
  have hM2 := Lib.hid hM1
  have b1 : Below w.heap.size w (w1.alloc (.cells #[.int .i64 p, .int .i64 c, .int .i64 n, .slice (some ⟨g, 0, none⟩) l cp] 30)) := hB1.alloc hB1.size _
  have oX : Own (w1.alloc (.cells #[.int .i64 p, .int .i64 c, .int .i64 n, .slice (some ⟨g, 0, none⟩) l cp] 30)) w1.heap.size #[.int .i64 p, .int .i64 c, .int .i64 n, .slice (some ⟨g, 0, none⟩) l cp] 30 := Own.new _ _ _
  have rT := rT0.below ((Below.refl _ w1).alloc (Nat.le_refl _) (.cells #[.int .i64 p, .int .i64 c, .int .i64 n, .slice (some ⟨g, 0, none⟩) l cp] 30))
  obtain ⟨e9, he9⟩ : ∃ e, w1.heap.size = e := ⟨_, rfl⟩
  rw [he9] at oX ⊢
  clear he9 hM1 rT0 hB1 hM2
  generalize w1.alloc (.cells #[.int .i64 p, .int .i64 c, .int .i64 n, .slice (some ⟨g, 0, none⟩) l cp] 30) = w2 at *
  obtain ⟨ad, hads⟩ : ∃ ad : Addr, (⟨g, 0, none⟩ : Addr) = ad := ⟨_, rfl⟩
  rw [hads] at rT oX
  have hR' := Lib.hid rT
  have lX := oX.lt
  clear rT hads
  go_wp2
  go_loopw [10, 11] (fun v i wr => ∃ k : Nat, k ≤ l ∧ i = .int .i64 k ∧ v = .int .i64 (bkS p c ts k) ∧ Own wr e9 #[.int .i64 p, .int .i64 c, .int .i64 n, .slice (some ad) l cp] 30 ∧ Below w.heap.size w wr ∧ Below w2.heap.size w2 wr) (fun _ i _ => ((l : Int) - intOf i).toNat)
  case atStart => exact ⟨0, by omega, rfl, rfl, oX, b1, Below.refl _ _⟩
  case round =>
    clear oX b1
    obtain ⟨k, hk, rfl, rfl, hO, hB, hB2⟩ := hrel
    have y3 : wr.cell? ⟨e9, 3, none⟩ = some (.slice (some ad) l cp) := hO.cell 3
    have hrk := hrg.out k
    by_cases hlt : k < l
    · have hkt : k < ts.length := by rw [hLL.out]; exact hlt
      have hltI : (k : Int) < l := by omega
      have hc := (hR'.out.below hB2).cell ad rfl k hkt
      obtain ⟨hn, hvd, k1, kp⟩ := htm.out k hkt
      have hstep := Lib.hid (show bkS p c ts (k + 1) = (bkS p c ts k + bkT p c (ts.getD k zT)) % p from rfl)
      obtain ⟨⟨tn, tms, tk⟩, ht⟩ : ∃ t, ts.getD k zT = t := ⟨_, rfl⟩
      rw [ht] at hc hn hvd k1 kp hstep
      replace hn : tn = n := hn
      replace k1 : 0 ≤ tk := k1
      replace kp : tk < p := kp
      subst hn
      obtain ⟨hd, ht16, htb⟩ := hvd
      have hS := (isD_iff tn tms ht16 htb).1 hd
      obtain ⟨lp, e1, hlp2, e2⟩ := lpT_pos (k := tk) ⟨hd, ht16, htb⟩
      have cC : ∀ d os, Calls Try.prog 95 #[.agg (dcells tn tms)] (Sort.grow (redrawn wr d) os) fun e w'' => e = .returned (.int .i64 ((lp : Int) + 1)) ∧ ∃ p : Regrown, w'' = Sort.grow (redrawn wr p.d) p.os := fun d os => Calls.regrown_of (by
        have := cloS_any tn tms ht16 htb hS (Sort.grow (redrawn wr d) os)
        rw [e1] at this
        exact this)
      have cP : ∀ d os, Calls Try.prog 57 #[.int .i64 p, .int .i64 c, .int .i64 lp] (Sort.grow (redrawn wr d) os) fun e w'' => e = .returned (.int .i64 (pw p c lp)) ∧ ∃ p : Regrown, w'' = Sort.grow (redrawn wr p.d) p.os := fun d os => Calls.regrown_of ((powS_any p c lp _ hp hp2 hc0 hc1 hlp2).mono fun e w' h => ⟨h.1, h.2 ▸ Below.refl _ _⟩)
      have hsm := Lib.hid (show bkT p c (tn, tms, tk) = tk * pw p c lp by unfold bkT; rw [e2])
      rw [hsm.out] at hstep
      have x1 := cell_regrown (show wr.cell? ⟨e9, 1, none⟩ = some (.int .i64 c) from hO.cell 1)
      have x3 := cell_regrown (show wr.cell? ⟨e9, 3, none⟩ = some (.slice (some ad) l cp) from hO.cell 3)
      have qk2 := cell_regrown (show wr.cell? { block := (ad.add (k * 18)).block, off := (ad.add (k * 18)).off + 17, spot := none } = some (.int .i64 tk) from hc 17 _ (by show ((dcells tn tms).toList ++ [_])[17]? = _; rw [List.getElem?_append_right (by rw [dl17 ht16]; exact Nat.le_refl _), dl17 ht16]; rfl))
      have ld := loadD_grown tn tms ht16 (ad.add (k * 18)) wr (fun i v hi => hc i v (by show ((dcells tn tms).toList ++ [_])[i]? = _; rw [List.getElem?_append_left (List.getElem?_eq_some_iff.1 hi).1]; exact hi))
      have hpw := pw_range p c hp lp
      obtain ⟨P, hP⟩ : ∃ P, pw p c lp = P := ⟨_, rfl⟩
      rw [hP] at cP hpw hstep
      have hmul := bnd_mul p tk P 0 hp hp2 (by omega) kp hpw.1 hpw.2
      obtain ⟨M, hM⟩ : ∃ M, tk * P = M := ⟨_, rfl⟩
      rw [hM] at hmul hstep
      have wM : IntKind.i64.wrap M = M := IntWalk.i64_in _ (by omega)
      obtain ⟨V, hVV⟩ : ∃ V, bkS p c ts k = V := ⟨_, rfl⟩
      rw [hVV] at hrk hstep ⊢
      have wV : IntKind.i64.wrap (V + M) = V + M := IntWalk.i64_in _ (by have := hrk.1; have := hrk.2; have := hmul.1; have := hmul.2; omega)
      have tV : (V + M).tmod p = (V + M) % p := Int.tmod_eq_emod_of_nonneg (Int.add_nonneg hrk.1 hmul.1)
      have r0 := Int.emod_nonneg (V + M) (show p ≠ 0 by omega)
      have r1 := Int.emod_lt_of_pos (V + M) (show 0 < p by omega)
      obtain ⟨Z, hZ⟩ : ∃ Z, (V + M) % p = Z := ⟨_, rfl⟩
      rw [hZ] at r0 r1 tV hstep
      have wR : IntKind.i64.wrap Z = Z := IntWalk.i64_in _ (by omega)
      obtain ⟨z, hz⟩ : ∃ z : Int, (lp : Int) + 1 = z := ⟨_, rfl⟩
      have zz : z - 1 = (lp : Int) := by omega
      have wz : IntKind.i64.wrap (lp : Int) = (lp : Int) := IntWalk.i64_in _ (by omega)
      rw [hz] at cC
      have hst2 := Lib.hid hstep.out
      have hO' := Lib.hid hO
      have hB' := Lib.hid hB
      have hB2' := Lib.hid hB2
      clear hVV hP hstep hS hd ht ht16 htb hO hB hB2 hc e1 e2 hz
      go_wp2_with fail
      refine wp_region_quiet_below (by kernel_rfl) (by kernel_rfl) ?_
      iterate 15 (go_big_quiet_step (fail))
      go_big_quiet_want
      refine quiet_ld 53 (.tmp 38) rfl (ad.add (k * 18)) (by first | rfl | simp) _ (fun w' h => by obtain ⟨pp, rfl⟩ := h; exact ld _ _) ?_
      go_frame
      go_big_quiet_on
      iterate 8 (go_big_quiet_step (first | exact cC _ _ | exact cP _ _))
      refine wpQuiet_nil ?_
      intro _ hw'
      obtain ⟨⟨dq, osq⟩, hw''⟩ := hw'
      subst hw''
      have b3 := hB'.out.trans ((below_regrown wr dq osq).mono hB'.out.size)
      have b4 := hB2'.out.trans ((below_regrown wr dq osq).mono hB2'.out.size)
      have hX3 := hO'.out.below (below_regrown wr dq osq) hO'.out.lt
      generalize Sort.grow (redrawn wr dq) osq = w3 at hX3 b3 b4 ⊢
      go_wp2
      go_roundw
      case rel => exact ⟨k + 1, by omega, by go_num, by rw [hst2.out], hX3, b3, b4⟩
      case measure => simp [intOf]; omega
    · obtain rfl : k = l := by omega
      go_wp2
      go_ret
      exact ⟨by rw [hV.out]; rfl, hB⟩
end Go.Proofs.Ytbibmncepjmgcaa
