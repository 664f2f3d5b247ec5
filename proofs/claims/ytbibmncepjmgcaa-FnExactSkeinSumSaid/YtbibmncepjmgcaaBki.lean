/- Brackets: the program. -/
import Derived.Test.YtbibmncepjmgcaaBkm
import Derived.Test.YtbibmncepjmgcaaBrf
namespace Go.Proofs.Ytbibmncepjmgcaa
open Go.RowKit Go.Lib Go.BigFrame
set_option linter.unusedVariables false
set_option linter.unusedSimpArgs false
set_option maxRecDepth 100000 in
set_option maxHeartbeats 4000000 in
theorem brc_any (p c n k : Int) (ms : List Int) (g5 g6 : Nat) (hv : VD (n, ms)) (hp : 2 ≤ p) (hp2 : p ≤ 97) (hc0 : 0 ≤ c) (hc1 : c < p) (w : World) (h5 : Own w g5 #[.int .i64 p] 2) (h6 : Own w g6 #[.int .i64 c] 2) :
    Calls Try.prog 97 #[.agg (tcl (n, ms, k)).toArray, .pointer (some ⟨g5, 0, none⟩), .pointer (some ⟨g6, 0, none⟩)] w fun e w' => e = .returned (.tuple #[.int .i64 k, .int .i64 (pw p c (lpT (n, ms, k) - 1))]) ∧ Below w.heap.size w w' := by
  obtain ⟨hd, h16, hb⟩ := hv
  have hS := (isD_iff n ms h16 hb).1 hd
  obtain ⟨lp, e1, hlp2, e2⟩ := lpT_pos (k := k) ⟨hd, h16, hb⟩
  rw [e2]
  have oT : Own (w.alloc (.cells (tcl (n, ms, k)).toArray 56)) w.heap.size (tcl (n, ms, k)).toArray 56 := Own.new _ _ _
  have o5 := h5.alloc (.cells (tcl (n, ms, k)).toArray 56)
  have o6 := h6.alloc (.cells (tcl (n, ms, k)).toArray 56)
  have b1 : Below w.heap.size w (w.alloc (.cells (tcl (n, ms, k)).toArray 56)) := (Below.refl _ w).alloc (Nat.le_refl _) _
  obtain ⟨w2, hw2⟩ : ∃ x, w.alloc (.cells (tcl (n, ms, k)).toArray 56) = x := ⟨_, rfl⟩
  rw [hw2] at oT o5 o6 b1
  have x17 := cell_regrown (show w2.cell? ⟨w.heap.size, 17, none⟩ = some (.int .i64 k) by
    rw [oT.cell, List.getElem?_toArray, tcl_eq, List.nil_append, List.getElem?_append_right (by rw [dl17 h16]; exact Nat.le_refl _), dl17 h16]; rfl)
  have x5 := cell_regrown (show w2.cell? ⟨g5, 0, none⟩ = some (.int .i64 p) from o5.cell 0)
  have x6 := cell_regrown (show w2.cell? ⟨g6, 0, none⟩ = some (.int .i64 c) from o6.cell 0)
  have ld := loadD_grown n ms h16 ⟨w.heap.size, 0, none⟩ w2 (fun i v hi => by rw [Addr.add_mid, Nat.zero_add]; exact (Own.part (A := []) (B := (dcells n ms).toList) (C := [.int .i64 k]) oT i v hi) |> fun h => by simpa using h)
  have cC : ∀ d os, Calls Try.prog 98 #[.agg (dcells n ms)] (Sort.grow (redrawn w2 d) os) fun e w'' => e = .returned (.int .i64 ((lp : Int) + 1)) ∧ ∃ p : Regrown, w'' = Sort.grow (redrawn w2 p.d) p.os := fun d os => Calls.regrown_of (by
    have := cloI_any n ms h16 hb hS (Sort.grow (redrawn w2 d) os)
    rw [e1] at this
    exact this)
  have cP : ∀ d os, Calls Try.prog 59 #[.int .i64 p, .int .i64 c, .int .i64 lp] (Sort.grow (redrawn w2 d) os) fun e w'' => e = .returned (.int .i64 (pw p c lp)) ∧ ∃ p : Regrown, w'' = Sort.grow (redrawn w2 p.d) p.os := fun d os => Calls.regrown_of ((powI_any p c lp _ hp hp2 hc0 hc1 hlp2).mono fun e w' h => ⟨h.1, h.2 ▸ Below.refl _ _⟩)
  obtain ⟨P, hP⟩ : ∃ P, pw p c lp = P := ⟨_, rfl⟩
  rw [hP] at cP ⊢
  obtain ⟨z, hz⟩ : ∃ z : Int, (lp : Int) + 1 = z := ⟨_, rfl⟩
  have wz : IntKind.i64.wrap (z - 1) = (lp : Int) := by rw [show z - 1 = (lp : Int) by omega]; exact IntWalk.i64_in _ (by omega)
  rw [hz] at cC
  have zz : z - 1 = (lp : Int) := by omega
  clear hP hS hb hd e1 e2 h5 h6 hz oT o5 o6
  go_enter Try.func97, Try.ntmps97
  go_upto_region 1 with fail
  refine wp_region_quiet_below (by kernel_rfl) (by kernel_rfl) ?_
  iterate 5 (go_big_quiet_step (fail))
  go_big_quiet_want
  refine quiet_ld 53 (.tmp 10) rfl ⟨w.heap.size, 0, none⟩ rfl _ (fun w' h => by obtain ⟨pp, rfl⟩ := h; exact ld _ _) ?_
  go_frame
  go_big_quiet_on
  iterate 5 (go_big_quiet_step (first | exact cC _ _ | exact cP _ _))
  refine wpQuiet_nil ?_
  intro _ hw'
  obtain ⟨⟨dq, osq⟩, hw''⟩ := hw'
  subst hw''
  have b3 := b1.trans ((below_regrown w2 dq osq).mono b1.size)
  generalize Sort.grow (redrawn w2 dq) osq = w3 at b3 ⊢
  go_wp2
  go_ret2
  exact ⟨rfl, b3⟩
set_option maxRecDepth 100000 in
set_option maxHeartbeats 4000000 in
theorem sop_any (p c n : Int) (hp : 2 ≤ p) (hp2 : p ≤ 97) (hc0 : 0 ≤ c) (hc1 : c < p) (ts : List Tm) (hL : OkE p n ts) (q : Option Addr) (cap g5 g6 : Nat) (w : World) (hR : RdT w q ts) (h5 : Own w g5 #[.int .i64 p] 2) (h6 : Own w g6 #[.int .i64 c] 2) :
    Calls Try.prog 96 #[.int .i64 p, .slice q ts.length cap, .func (.func 97) #[] #[.pointer (some ⟨g5, 0, none⟩), .pointer (some ⟨g6, 0, none⟩)]] w fun e w' => e = .returned (.int .i64 (bkV p c ts)) ∧ Below w.heap.size w w' := by
  have htm := Lib.hid (okE_term hL)
  obtain ⟨l, hl⟩ : ∃ l, ts.length = l := ⟨_, rfl⟩
  have hLL := Lib.hid hl
  have hR' := Lib.hid hR
  have hrg := Lib.hid (bkI_rng (c := c) hp hp2 ts (fun j hj => ⟨(htm.out j hj).2.2.1, (htm.out j hj).2.2.2⟩))
  have hfin := Lib.hid (bkV_I (c := c) hp ts)
  have h140 := hL.2.2
  rw [hl] at h140 hfin ⊢
  have l5 := h5.lt
  have l6 := h6.lt
  clear hR hL hl
  go_enter Try.func96, Try.ntmps96
  go_wp2
  go_loopw [7, 14] (fun v i wr => ∃ k : Nat, k ≤ l ∧ i = .int .i64 k ∧ v = .int .i64 (bkI p c ts k) ∧ Below w.heap.size w wr) (fun _ i _ => ((l : Int) - intOf i).toNat)
  case atStart => exact ⟨0, by omega, rfl, rfl, Below.refl _ _⟩
  case round =>
    obtain ⟨k, hk, rfl, rfl, hB⟩ := hrel
    have hrk := hrg.out k (by rw [hLL.out]; exact hk)
    by_cases hlt : k < l
    · have hrk1 := hrg.out (k + 1) (by rw [hLL.out]; exact hlt)
      have hkt : k < ts.length := by rw [hLL.out]; exact hlt
      have hltI : (k : Int) < l := by omega
      cases q with
      | none => exfalso; have h1 := hR'.out.nil rfl; rw [h1] at hkt; simp at hkt
      | some a =>
        have hc := Lib.hid ((hR'.out.below hB).cell a rfl k hkt)
        obtain ⟨hn, hvd, k1, kp⟩ := htm.out k hkt
        have hstep := Lib.hid (show bkI p c ts (k + 1) = bkI p c ts k + bkT p c (ts.getD k zT) from rfl)
        obtain ⟨⟨tn, tms, tk⟩, ht⟩ : ∃ t, ts.getD k zT = t := ⟨_, rfl⟩
        rw [ht] at hc hn hvd k1 kp hstep
        replace hn : tn = n := hn
        replace k1 : 0 ≤ tk := k1
        replace kp : tk < p := kp
        subst hn
        have ht16 : tms.length = 16 := hvd.2.1
        have h18 := Lib.hid (show (tcl (tn, tms, tk)).length = 18 from tcl_len ht16)
        have hs18 := Lib.hid (show (tcl (tn, tms, tk)).toArray.size = 18 by rw [List.size_toArray]; exact tcl_len ht16)
        have hz18 := Lib.hid (show (tcl zT).toArray.size = 18 by rw [List.size_toArray]; exact zT_len)
        have hcl := Lib.hid (fun w h5 h6 => brc_any p c tn tk tms g5 g6 hvd hp hp2 hc0 hc1 w h5 h6)
        have hpw := pw_range p c hp (lpT (tn, tms, tk) - 1)
        have hbt : bkT p c (tn, tms, tk) = tk * pw p c (lpT (tn, tms, tk) - 1) := rfl
        rw [hbt] at hstep
        rw [hstep.out] at hrk1
        obtain ⟨P, hP⟩ : ∃ P, pw p c (lpT (tn, tms, tk) - 1) = P := ⟨_, rfl⟩
        rw [hP] at hcl hpw hstep hrk1
        have hmul := bnd_mul p tk P 0 hp hp2 (by omega) kp hpw.1 hpw.2
        obtain ⟨M, hM⟩ : ∃ M, tk * P = M := ⟨_, rfl⟩
        rw [hM] at hmul hstep hrk1
        have wM : IntKind.i64.wrap (tk * P) = M := by rw [hM]; exact IntWalk.i64_in _ (by omega)
        obtain ⟨V, hV⟩ : ∃ V, bkI p c ts k = V := ⟨_, rfl⟩
        rw [hV] at hrk hrk1 hstep ⊢
        have wV : IntKind.i64.wrap (V + M) = V + M := IntWalk.i64_in _ (by have := hrk.1; have := hrk.2; have := hmul.1; have := hmul.2; omega)
        have o5 := h5.below hB l5
        have o6 := h6.below hB l6
        have bz := hB.size
        clear hP hV hM hvd ht ht16 hbt
        go_wp2_with (first
          | (refine wpList_load_at rfl 56 (.tmp 16) rfl (a.add (k * 18)) (by first | rfl | simp) (tcl (tn, tms, tk)) _ hc.out Try.underlying56 rfl (by rw [h18.out]; kernel_rfl) ?_)
          | (refine wpList_store_own rfl 56 _ _ rfl _ _ rfl rfl 56 _ (Own.new wr (tcl zT).toArray 56) (row52 hs18.out) (by rw [hz18.out, hs18.out]) (one_tcl _) ?_; intro w2 hO2 hN2; have p5 := (o5.alloc (.cells (tcl zT).toArray 56)).only hN2 (by omega); have p6 := (o6.alloc (.cells (tcl zT).toArray 56)).only hN2 (by omega); have b2 := (hB.alloc bz _).trans (hN2.below.mono bz))
          | (refine wpList_load_row rfl 56 _ rfl _ rfl 56 _ (0, 0) _ hO2 Try.underlying56 rfl (row52 hs18.out) ?_)
          | (go_at_call 97; ((with_reducible refine (hcl.out w2 p5 p6).mono ?_); rintro e w3 ⟨rfl, hB3⟩; have b3 := b2.trans (hB3.mono b2.size))))
        go_roundw
        case rel => exact ⟨k + 1, by omega, by go_num, by rw [hstep.out], b3⟩
        case measure => simp [intOf]; omega
    · obtain rfl : k = l := by omega
      obtain ⟨V, hV⟩ : ∃ V, bkI p c ts k = V := ⟨_, rfl⟩
      rw [hV] at hrk hfin ⊢
      have hre := Lib.hid (fun w1 => (remI_any p V w1 hp hp2 (by omega) (by omega)).mono fun e w' h => (show e = .returned (.int .i64 (V % p)) ∧ w' = w1 from ⟨h.1, h.2.symm⟩))
      rw [hfin.out] at hre
      go_wp2_with (first
        | (go_at_call 89; ((with_reducible refine (hre.out _).mono ?_); rintro e w3 ⟨rfl, rfl⟩)))
      go_ret
      exact ⟨rfl, hB⟩
end Go.Proofs.Ytbibmncepjmgcaa
