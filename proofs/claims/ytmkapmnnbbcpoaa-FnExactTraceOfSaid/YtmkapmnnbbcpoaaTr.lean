/- Traces of elements: program and model. -/
import Derived.Test.YtmkapmnnbbcpoaaElA
import Derived.Test.YtmkapmnnbbcpoaaClo
import Derived.Test.YtmkapmnnbbcpoaaNum
namespace Go.Proofs.Ytmkapmnnbbcpoaa
open Go.RowKit Go.BigFrame
set_option linter.unusedVariables false
/-- The loops of the closure of a term's diagram. -/
def lpT (t : Tm) : Nat := (cloL t.1 t.2.1 (2 * t.1).toNat).2.toNat
def smT (p c : Int) (t : Tm) : Int := t.2.2 * pw p c (lpT t)
/-- The sum of the first k terms, and its remainder as the model finds it. -/
def trI (p c : Int) (ts : List Tm) : Nat → Int
  | 0 => 0
  | k + 1 => trI p c ts k + smT p c (ts.getD k zT)
def trS (p c : Int) (ts : List Tm) : Nat → Int
  | 0 => 0
  | k + 1 => (trS p c ts k + smT p c (ts.getD k zT)) % p
theorem tr_same (p c : Int) (ts : List Tm) : ∀ k, trI p c ts k % p = trS p c ts k % p
  | 0 => rfl
  | k + 1 => by
    rw [trI, trS, Int.emod_emod, Int.add_emod, tr_same p c ts k, ← Int.add_emod]
theorem trS_rng {p c : Int} (hp : 2 ≤ p) (ts : List Tm) : ∀ k, 0 ≤ trS p c ts k ∧ trS p c ts k < p
  | 0 => ⟨Int.le_refl _, by show (0 : Int) < p; omega⟩
  | k + 1 => ⟨Int.emod_nonneg _ (by omega), Int.emod_lt_of_pos _ (by omega)⟩
theorem smT_rng {p c : Int} (hp : 2 ≤ p) (hp2 : p ≤ 97) (t : Tm) (h1 : 1 ≤ t.2.2) (h2 : t.2.2 < p) : 0 ≤ smT p c t ∧ smT p c t ≤ 9409 := by
  have r := pw_range p c hp (lpT t)
  exact bnd_mul p _ _ 0 hp hp2 (by omega) h2 r.1 r.2
theorem trI_rng {p c : Int} (hp : 2 ≤ p) (hp2 : p ≤ 97) (ts : List Tm) (h : ∀ j, j < ts.length → 1 ≤ (ts.getD j zT).2.2 ∧ (ts.getD j zT).2.2 < p) : ∀ k : Nat, k ≤ ts.length → 0 ≤ trI p c ts k ∧ trI p c ts k ≤ 9409 * (k : Int)
  | 0, _ => ⟨Int.le_refl _, Int.le_refl _⟩
  | k + 1, hk => by
    have a : 0 ≤ trI p c ts k ∧ trI p c ts k ≤ 9409 * (k : Int) := trI_rng hp hp2 ts h k (by omega)
    have b := smT_rng (c := c) hp hp2 (ts.getD k zT) (h k (by omega)).1 (h k (by omega)).2
    rw [trI]; omega
theorem elB_spec {p c n : Int} {ts : List Tm} (h : elB p c n ts = true) : primeB p = true ∧ 2 ≤ p ∧ p ≤ 97 ∧ 0 ≤ c ∧ c < p ∧ 1 ≤ n ∧ n ≤ 8 ∧ ts.length ≤ 140 ∧ elT n p ts ts.length = true := by
  unfold elB at h
  rw [Bool.and_eq_true, Bool.and_eq_true, Bool.and_eq_true, Bool.and_eq_true, decide_eq_true_iff, decide_eq_true_iff, decide_eq_true_iff] at h
  obtain ⟨⟨h1, h2⟩, h3, h4, h5⟩ := h
  have := primeB_two h1
  exact ⟨h1, this.1, this.2, h2.1, h2.2, h3.1, h3.2, h4, h5⟩
theorem elT_term {n p : Int} {ts : List Tm} (h : elT n p ts ts.length = true) (j : Nat) (hj : j < ts.length) : (ts.getD j zT).1 = n ∧ isD n (ts.getD j zT).2.1 = true ∧ 1 ≤ (ts.getD j zT).2.2 ∧ (ts.getD j zT).2.2 < p := by
  have := elT_ok h j hj
  rw [tOk, Bool.and_eq_true, Bool.and_eq_true, decide_eq_true_iff, decide_eq_true_iff] at this
  exact ⟨this.1.1, this.1.1 ▸ this.1.2, this.2⟩
set_option maxRecDepth 100000 in
theorem powS_any (p k : Int) (n : Nat) (w : World) (hp : 2 ≤ p) (hp2 : p ≤ 97) (hk0 : 0 ≤ k) (hk1 : k < p) (hn : n ≤ 1000) :
    Calls Try.prog 82 #[.int .i64 p, .int .i64 k, .int .i64 n] w fun e w' => e = .returned (.int .i64 (pw p k n)) ∧ w = w' := by
  have e0 : (p == 0) = false := by simp; omega
  have e1 : Int.tmod 1 p = 1 := by rw [Int.tmod_eq_emod_of_nonneg (by omega)]; exact Int.emod_eq_of_lt (by omega) (by omega)
  have hr := Lib.hid (pw_range p k hp)
  go_enter Try.func82, Try.ntmps82
  go_wp2
  go_loopw [2, 7] (fun i v wr => ∃ j : Nat, j ≤ n ∧ i = .int .i64 ((n - j : Nat) : Int) ∧ v = .int .i64 (pw p k j) ∧ wr = w) (fun i _ _ => (intOf i).toNat)
  case atStart => exact ⟨0, by omega, rfl, rfl, rfl⟩
  case round =>
    obtain ⟨j, hj, rfl, rfl, rfl⟩ := hrel
    by_cases hlt : j < n
    · obtain ⟨m, hm⟩ : ∃ m, n - j = m + 1 := ⟨n - j - 1, by omega⟩
      rw [hm]
      have r := hr.out j
      have m1 := bnd_mul p (pw p k j) k 0 hp hp2 r.1 r.2 hk0 hk1
      have hx : Hid (pw p k (j + 1) = pw p k j * k % p) := Lib.hid rfl
      have hm' := Lib.hid (show m = n - (j + 1) by omega)
      generalize pw p k j = x at *
      go_wp2
      go_roundw
      case rel => exact ⟨j + 1, by omega, by rw [← hm'.out] <;> simp, by rw [hx.out], trivial⟩
      case measure => simp [intOf]
    · obtain rfl : j = n := by omega
      rw [Nat.sub_self]
      go_wp2
      go_ret
      exact ⟨rfl, rfl⟩
set_option maxRecDepth 100000 in
set_option maxHeartbeats 4000000 in
theorem traceI_ok (p c n : Int) (q : Option Addr) (cap : Nat) (ts : List Tm) (hts : ∀ t ∈ ts, t.2.1.length = 16 ∧ Bytes t.2.1) (w : World) (hR : RdT w q ts) (h : elB p c n ts = true) :
    Calls Try.prog 34 #[.agg (ecl p c n (.slice q ts.length cap))] w fun e w' => e = .returned (.tuple #[.int .i64 (trS p c ts ts.length), .int .i64 0]) ∧ Below w.heap.size w w' := by
  obtain ⟨hpr, hp, hp2, c0, c1, n1, n8, h140, hT⟩ := elB_spec h
  have htm := Lib.hid (elT_term hT)
  have hok := Lib.hid (fun j (hj : j < ts.length) => hts (ts.getD j zT) (by rw [List.getD_eq_getElem?_getD, List.getElem?_eq_getElem hj]; exact List.getElem_mem hj))
  have e0 : (p == 0) = false := by simp; omega
  obtain ⟨l, hl⟩ : ∃ l, ts.length = l := ⟨_, rfl⟩
  have hL := Lib.hid hl
  have hR' := Lib.hid hR
  have hI := Lib.hid (fun w hR => elI_any p c n q cap ts hts (by omega) w hR)
  rw [h] at hI
  have hrg := Lib.hid (trI_rng (c := c) hp hp2 ts (fun j hj => (htm.out j hj).2.2))
  have hfin := Lib.hid (show trI p c ts ts.length % p = trS p c ts ts.length by rw [tr_same]; have := trS_rng (c := c) hp ts ts.length; exact Int.emod_eq_of_lt this.1 this.2)
  rw [hl] at hI h140 hfin ⊢
  clear hpr hR h hts hT hl
  go_enter Try.func34, Try.ntmps34
  unfold ecl at *
  go_wp2_with (first
    | (go_at_call 18; ((with_reducible refine (hI.out _ (hR'.out.below ((Below.refl _ _).alloc (Nat.le_refl _) _))).mono ?_); rintro e w1 ⟨rfl, hB1⟩; have b1 := ((Below.refl w.heap.size w).alloc (Nat.le_refl _) _).trans (hB1.mono (by simp)); have hA1 := (Own.new w #[.int .i64 p, .int .i64 c, .int .i64 n, .slice q l cap] 29).below hB1 (by simp); have y3 : w1.cell? ⟨w.heap.size, 3, none⟩ = some (.slice q l cap) := hA1.cell 3))
    | (refine wpList_load_row rfl 29 _ rfl _ rfl 29 _ (0, 0) _ (Own.new w _ _) Try.underlying29 rfl (by kernel_rfl) ?_))
  clear hI y3
  go_loopw [4, 13] (fun v i wr => ∃ k : Nat, k ≤ l ∧ i = .int .i64 k ∧ v = .int .i64 (trI p c ts k) ∧ Own wr w.heap.size #[.int .i64 p, .int .i64 c, .int .i64 n, .slice q l cap] 29 ∧ Below w.heap.size w wr) (fun _ i _ => ((l : Int) - intOf i).toNat)
  case atStart => exact ⟨0, by omega, rfl, rfl, hA1, b1⟩
  case round =>
    clear hA1 b1 hB1
    obtain ⟨k, hk, rfl, rfl, hO, hB⟩ := hrel
    have hrk := hrg.out k (by rw [hL.out]; exact hk)
    by_cases hlt : k < l
    · have hrk1 := hrg.out (k + 1) (by rw [hL.out]; exact hlt)
      have hkt : k < ts.length := by rw [hL.out]; exact hlt
      have hltI : (k : Int) < l := by omega
      cases q with
      | none => exfalso; have h1 := hR'.out.nil rfl; rw [h1] at hkt; simp at hkt
      | some a =>
        have hc := (hR'.out.below hB).cell a rfl k hkt
        obtain ⟨hn, hd, k1, kp⟩ := htm.out k hkt
        obtain ⟨ht16, htb⟩ := hok.out k hkt
        have hstep := Lib.hid (show trI p c ts (k + 1) = trI p c ts k + smT p c (ts.getD k zT) from rfl)
        obtain ⟨⟨tn, tms, tk⟩, ht⟩ : ∃ t, ts.getD k zT = t := ⟨_, rfl⟩
        rw [ht] at hc hn hd k1 kp ht16 htb hstep
        replace hn : tn = n := hn
        subst hn
        have hS := (isD_iff tn tms ht16 htb).1 hd
        have hbd := cloL_bd tn tms (2 * tn).toNat
        obtain ⟨lp, hlp⟩ : ∃ lp : Nat, (cloL tn tms (2 * tn).toNat).2 = lp := ⟨(cloL tn tms (2 * tn).toNat).2.toNat, by omega⟩
        have hlp2 : lp ≤ 1000 := by omega
        have h18 := Lib.hid (show (tcl (tn, tms, tk)).length = 18 from tcl_len ht16)
        have hs18 := Lib.hid (show (tcl (tn, tms, tk)).toArray.size = 18 by rw [List.size_toArray]; exact tcl_len ht16)
        have hz18 := Lib.hid (show (tcl zT).toArray.size = 18 by rw [List.size_toArray]; exact zT_len)
        have hcC0 := Lib.hid (fun w2 : World => cloI_any tn tms ht16 htb hS w2)
        have hsm := Lib.hid (show smT p c (tn, tms, tk) = tk * pw p c lp by unfold smT lpT; rw [hlp]; rfl)
        rw [hsm.out] at hstep
        rw [hstep.out] at hrk1
        have hlt0 := hO.lt
        have hc' := Lib.hid hc
        have hO' := Lib.hid hO
        have hB' := Lib.hid hB
        clear hc hO hB
        go_wp2_with (first
          | (refine wpList_load_at rfl 56 (.tmp 15) rfl (a.add (k * 18)) (by first | rfl | simp) (tcl (tn, tms, tk)) _ hc'.out Try.underlying56 rfl (by rw [h18.out]; kernel_rfl) ?_)
          | (refine wpList_store_own rfl 56 _ _ rfl _ _ rfl rfl 56 _ (Own.new wr (tcl zT).toArray 56) (row52 hs18.out) (by rw [hz18.out, hs18.out]) (one_tcl _) ?_; intro w2 hO2 hN2))
        have hX2 := (hO'.out.alloc (.cells (tcl zT).toArray 56)).only hN2 (Nat.ne_of_lt hlt0)
        have hB2 : Below wr.heap.size wr w2 := ((Below.refl wr.heap.size wr).alloc (Nat.le_refl _) _).trans (hN2.below.mono (Nat.le_refl _))
        have b2 := hB'.out.trans (hB2.mono hB'.out.size)
        have x0 := cell_regrown (show w2.cell? ⟨w.heap.size, 0, none⟩ = some (.int .i64 p) from hX2.cell 0)
        have x1 := cell_regrown (show w2.cell? ⟨w.heap.size, 1, none⟩ = some (.int .i64 c) from hX2.cell 1)
        have x17 := cell_regrown (show w2.cell? ⟨wr.heap.size, 17, none⟩ = some (.int .i64 tk) by
          rw [hO2.cell, List.getElem?_toArray, tcl_eq, List.nil_append, List.getElem?_append_right (by rw [dl17 ht16]; exact Nat.le_refl _), dl17 ht16]; rfl)
        have ld := loadD_grown tn tms ht16 ⟨wr.heap.size, 0, none⟩ w2 (fun i v hi => by rw [Addr.add_mid, Nat.zero_add]; exact (Own.part (A := []) (B := (dcells tn tms).toList) (C := [.int .i64 tk]) hO2 i v hi) |> fun h => by simpa using h)
        have cC : ∀ d os, Calls Try.prog 77 #[.agg (dcells tn tms)] (Sort.grow (redrawn w2 d) os) fun e w'' => e = .returned (.int .i64 (lp : Int)) ∧ ∃ p : Regrown, w'' = Sort.grow (redrawn w2 p.d) p.os := fun d os => Calls.regrown_of (by
          have := cloI_any tn tms ht16 htb hS (Sort.grow (redrawn w2 d) os)
          rw [hlp] at this
          exact this)
        have cP : ∀ d os, Calls Try.prog 76 #[.int .i64 p, .int .i64 c, .int .i64 lp] (Sort.grow (redrawn w2 d) os) fun e w'' => e = .returned (.int .i64 (pw p c lp)) ∧ ∃ p : Regrown, w'' = Sort.grow (redrawn w2 p.d) p.os := fun d os => Calls.regrown_of ((powI_any p c lp _ hp hp2 c0 c1 hlp2).mono fun e w' h => ⟨h.1, h.2 ▸ Below.refl _ _⟩)
        have hpw := pw_range p c hp lp
        obtain ⟨P, hP⟩ : ∃ P, pw p c lp = P := ⟨_, rfl⟩
        rw [hP] at cP hpw hstep hrk1
        have hmul := bnd_mul p tk P 0 hp hp2 (by omega) kp hpw.1 hpw.2
        obtain ⟨M, hM⟩ : ∃ M, tk * P = M := ⟨_, rfl⟩
        rw [hM] at hmul hstep hrk1
        have wM : IntKind.i64.wrap M = M := IntWalk.i64_in _ (by omega)
        obtain ⟨V, hV⟩ : ∃ V, trI p c ts k = V := ⟨_, rfl⟩
        rw [hV] at hrk hrk1 hstep ⊢
        have wV : IntKind.i64.wrap (V + M) = V + M := IntWalk.i64_in _ (by omega)
        have hst2 := Lib.hid hstep.out
        clear hV hP hstep hS hbd hd ht ht16 htb
        refine wp_region_quiet_below (by kernel_rfl) (by kernel_rfl) ?_
        iterate 8 (go_big_quiet_step (fail))
        go_big_quiet_want
        refine quiet_ld 38 (.tmp 24) rfl ⟨wr.heap.size, 0, none⟩ rfl _ (fun w' h => by obtain ⟨pp, rfl⟩ := h; exact ld _ _) ?_
        go_frame
        go_big_quiet_on
        iterate 5 (go_big_quiet_step (first | exact cC _ _ | exact cP _ _))
        refine wpQuiet_nil ?_
        intro _ hw'
        obtain ⟨⟨dq, osq⟩, hw''⟩ := hw'
        subst hw''
        have b3 := b2.trans ((below_regrown w2 dq osq).mono b2.size)
        have hX3 := hX2.below (below_regrown w2 dq osq) hX2.lt
        generalize Sort.grow (redrawn w2 dq) osq = w3 at hX3 b3 ⊢
        go_wp2
        go_roundw
        case rel => exact ⟨k + 1, by omega, by go_num, by rw [hst2.out], hX3, b3⟩
        case measure => simp [intOf]; omega
    · obtain rfl : k = l := by omega
      have y0 : wr.cell? ⟨w.heap.size, 0, none⟩ = some (.int .i64 p) := hO.cell 0
      obtain ⟨V, hV⟩ : ∃ V, trI p c ts k = V := ⟨_, rfl⟩
      rw [hV] at hrk hfin ⊢
      have htm' : V.tmod p = trS p c ts k := by rw [Int.tmod_eq_emod_of_nonneg hrk.1]; exact hfin.out
      go_wp2
      go_ret2
      exact ⟨by first | rfl | (rw [← htm']; rfl) | (simp [htm']), hB⟩
end Go.Proofs.Ytmkapmnnbbcpoaa
