/- moveTerms: terms led to others by any function. -/
import Derived.Test.YtpmcngmphkegnaaPoe
namespace Go.Proofs.Ytpmcngmphkegnaa
open Go.RowKit Go.Lib
set_option linter.unusedVariables false
set_option linter.unusedSimpArgs false
/-- A term led to another one, with loops. -/
def mvT (p c n2 : Int) (f : List Int → List Int) (lo : List Int → Int) (t : Tm) : Tu := ((n2, f t.2.1), t.2.2 * pw p c (lo t.2.1).toNat)
/-- The sum of all. -/
def mvN (p c n2 : Int) (f : List Int → List Int) (lo : List Int → Int) (ts : List Tm) : List Tm := adds p (ts.map (mvT p c n2 f lo)) []
theorem mvN_len (p c n2 : Int) (f : List Int → List Int) (lo : List Int → Int) (ts : List Tm) : (mvN p c n2 f lo ts).length ≤ ts.length := by
  have := adds_len p (ts.map (mvT p c n2 f lo)) []
  rw [List.length_map, List.length_nil, Nat.zero_add] at this
  exact this
theorem mvN_good {p c n2 : Int} (hp : 0 < p) {f : List Int → List Int} {lo : List Int → Int} {ts : List Tm} (h : ∀ t ∈ ts, VD (n2, f t.2.1)) : GoodT p (mvN p c n2 f lo ts) := by
  refine adds_good hp _ _ (fun u hu => ?_) (Good.nil p)
  obtain ⟨t, ht, rfl⟩ := List.mem_map.1 hu
  exact h t ht
set_option maxRecDepth 100000 in
set_option maxHeartbeats 8000000 in
theorem moveI_any (K : Nat) (cv : Array Value) (f : List Int → List Int) (lo : List Int → Int) (p c n n2 : Int) (q : Option Addr) (cap : Nat) (ts : List Tm) (hx : ∀ t ∈ ts, t.1 = n ∧ VD (kTm t) ∧ 0 ≤ t.2.2 ∧ t.2.2 ≤ 100) (hxl : ts.length ≤ 140) (hp : 2 ≤ p) (hp2 : p ≤ 97) (hc0 : 0 ≤ c) (hc1 : c < p) (w : World) (hR : RdT w q ts)
    (hE : ∀ (args : Array Value) (w : World), (callFunc K args).run Try.prog w = .ok (.enter K args) w)
    (hK : ∀ W, Below w.heap.size w W → ∀ ms, VD (n, ms) → Calls Try.prog K (#[.agg (dcells n ms)] ++ cv) W fun e w' => e = .returned (.tuple #[.agg (dcells n2 (f ms)), .int .i64 (lo ms)]) ∧ Below W.heap.size W w')
    (hv : ∀ ms, VD (n, ms) → VD (n2, f ms) ∧ 0 ≤ lo ms ∧ lo ms ≤ 100) :
    Calls Try.prog 64 #[.agg (ecl p c n (.slice q ts.length cap)), .int .i64 n2, .func (.func K) #[] cv] w fun e w' => (∃ q cap, e = .returned (.tuple #[.agg (ecl p c n2 (.slice q (mvN p c n2 f lo ts).length cap)), .int .i64 0]) ∧ Res w' w.heap.size q (mvN p c n2 f lo ts)) ∧ Below w.heap.size w w' := by
  have hpp : 0 < p := by omega
  have hgy := Lib.hid (fun (i : Nat) (hi : i < ts.length) => show ∃ dm f, ts.getD i zT = (n, dm, f) ∧ VD (n, dm) ∧ 0 ≤ f ∧ f ≤ 100 ∧ ts[i] = (n, dm, f) from by
    obtain ⟨⟨dn, dm, f⟩, h⟩ : ∃ t, ts[i] = t := ⟨_, rfl⟩
    have hm : (dn, dm, f) ∈ ts := by rw [← h]; exact List.getElem_mem hi
    obtain ⟨rfl, b, c, d⟩ := hx _ hm
    exact ⟨dm, f, by rw [List.getD_eq_getElem?_getD, List.getElem?_eq_getElem hi, h]; rfl, b, c, d, h⟩)
  obtain ⟨G, hG⟩ : ∃ G : Nat → List Tm, G = fun j => adds p ((ts.take j).map (mvT p c n2 f lo)) [] := ⟨_, rfl⟩
  have hG0 := Lib.hid (show G 0 = [] by rw [hG]; rfl)
  have hGe := Lib.hid (show G ts.length = mvN p c n2 f lo ts by rw [hG]; unfold mvN; simp only [List.take_length])
  have hGs := Lib.hid (fun (j : Nat) (hj : j < ts.length) => show G (j + 1) = addT p (mvT p c n2 f lo ts[j]).1 (mvT p c n2 f lo ts[j]).2 (G j) from by
    rw [hG]
    have := adds_take p (ts.map (mvT p c n2 f lo)) [] j (by rw [List.length_map]; exact hj)
    rw [List.getElem_map, ← List.map_take, ← List.map_take] at this
    exact this)
  have hGg := Lib.hid (fun j => show GoodT p (G j) from by
    rw [hG]
    refine adds_good hpp _ _ (fun u hu => ?_) (Good.nil p)
    obtain ⟨t, ht, rfl⟩ := List.mem_map.1 hu
    have h1 := hx t (List.mem_of_mem_take ht)
    have h2 : VD (t.1, t.2.1) := h1.2.1
    rw [h1.1] at h2
    exact (hv _ h2).1)
  have hRg : GoodT p (mvN p c n2 f lo ts) := mvN_good hpp (fun t ht => by
    have h1 := hx t ht
    have h2 : VD (t.1, t.2.1) := h1.2.1
    rw [h1.1] at h2
    exact (hv _ h2).1)
  have hRl := mvN_len p c n2 f lo ts
  have hv' := Lib.hid hv
  have hK' := Lib.hid hK
  have hR2' := Lib.hid (fun w' (hb : Below w.heap.size w w') => hR.below hb)
  obtain ⟨R, hRR⟩ : ∃ R, mvN p c n2 f lo ts = R := ⟨_, rfl⟩
  rw [hRR] at hGe hRg hRl ⊢
  obtain ⟨l, hl⟩ : ∃ l, ts.length = l := ⟨_, rfl⟩
  have hll := Lib.hid hl
  rw [hl] at hxl hGe hRl
  rw [hl]
  have heos := Lib.hid (fun b nn W hM => eos_any p c n2 none 0 0 b nn p R W hM hRg hp2 (by omega))
  have hmk : ∀ w : World, (Instr.makeMap 54 none).run Try.prog w = .ok (.map (some w.heap.size)) (w.alloc (.map #[] 0)) := fun w => rfl
  clear hx hG hR hRR hl hv hK hRg hRl
  unfold ecl at *
  go_enter Try.func64, Try.ntmps64
  go_wp2
  have oX0 : Own (((w.alloc (.cells #[.int .i64 p, .int .i64 c, .int .i64 n, .slice q l cap] 28)).alloc (.cells #[.int .i64 0, .int .i64 0, .int .i64 0, .slice none 0 0] 28)).alloc (.map #[] 0)) w.heap.size #[.int .i64 p, .int .i64 c, .int .i64 n, .slice q l cap] 28 := ((Own.new _ _ _).alloc _).alloc _
  have oR0 : Own (((w.alloc (.cells #[.int .i64 p, .int .i64 c, .int .i64 n, .slice q l cap] 28)).alloc (.cells #[.int .i64 0, .int .i64 0, .int .i64 0, .slice none 0 0] 28)).alloc (.map #[] 0)) (w.heap.size + 1) #[.int .i64 0, .int .i64 0, .int .i64 0, .slice none 0 0] 28 := (Own.at _ _ _ (by simp)).alloc _
  have sM0 : Smp (((w.alloc (.cells #[.int .i64 p, .int .i64 c, .int .i64 n, .slice q l cap] 28)).alloc (.cells #[.int .i64 0, .int .i64 0, .int .i64 0, .slice none 0 0] 28)).alloc (.map #[] 0)) (w.heap.size + 1 + 1) 0 [] := by
    have := Smp.new ((w.alloc (.cells #[.int .i64 p, .int .i64 c, .int .i64 n, .slice q l cap] 28)).alloc (.cells #[.int .i64 0, .int .i64 0, .int .i64 0, .slice none 0 0] 28))
    simpa using this
  have b0 : Below w.heap.size w (((w.alloc (.cells #[.int .i64 p, .int .i64 c, .int .i64 n, .slice q l cap] 28)).alloc (.cells #[.int .i64 0, .int .i64 0, .int .i64 0, .slice none 0 0] 28)).alloc (.map #[] 0)) := (((Below.refl _ w).alloc (Nat.le_refl _) _).alloc (by simp) _).alloc (by simp; omega) _
  go_loopw [17] (fun x wr => ∃ j k : Nat, j ≤ l ∧ x = .int .i64 j ∧ k ≤ j ∧ Own wr w.heap.size #[.int .i64 p, .int .i64 c, .int .i64 n, .slice q l cap] 28 ∧ Own wr (w.heap.size + 1) #[.int .i64 0, .int .i64 0, .int .i64 0, .slice none 0 0] 28 ∧ Smp wr (w.heap.size + 1 + 1) k (G j) ∧ Below w.heap.size w wr) (fun x _ => (l - intOf x).toNat)
  case atStart => exact ⟨0, 0, by omega, rfl, by omega, oX0, oR0, by rw [hG0.out]; exact sM0, b0⟩
  case round =>
    clear oX0 oR0 sM0 b0
    obtain ⟨j, k, hj, rfl, hk, oX, oR, sM, hB⟩ := hrel
    by_cases hlt2 : j < l
    · have lJ : (j : Int) < (l : Int) := by omega
      obtain ⟨em, f2, htd2, hvd2, k0, k1, hyj⟩ := hgy.out j (by rw [hll.out]; exact hlt2)
      have hGj := hGs.out j (by rw [hll.out]; exact hlt2)
      rw [hyj] at hGj
      have hGj2 := Lib.hid (show G (j + 1) = addT p (n2, f em) (f2 * pw p c (lo em).toNat) (G j) from hGj)
      have rT := hR2'.out _ hB
      obtain ⟨a, rfl⟩ : ∃ a, q = some a := by
        cases q with
        | none => have := rT.nil rfl; subst this; have := hll.out; simp at this; omega
        | some a => exact ⟨a, rfl⟩
      have hc := Lib.hid (fun j' v hv => rT.cell a rfl j (by rw [hll.out]; exact hlt2) j' v (by rw [htd2]; exact hv))
      have h18b := Lib.hid (tcl_len (t := (n, em, f2)) hvd2.2.1)
      have hz18 := Lib.hid (show (tcl zT).toArray.size = 18 by rfl)
      have hs18b := Lib.hid (show (tcl (n, em, f2)).toArray.size = 18 by simp [tcl_len (t := (n, em, f2)) hvd2.2.1])
      have hel := Lib.hid hvd2.2.1
      obtain ⟨hpv, hlb⟩ := hv'.out em hvd2
      have hpr := Lib.hid (fun W hW => hK'.out W hW em hvd2)
      obtain ⟨P, hP⟩ : ∃ P, f em = P := ⟨_, rfl⟩
      rw [hP] at hpr hpv hGj2
      obtain ⟨lp, hlp⟩ : ∃ x, lo em = x := ⟨_, rfl⟩
      rw [hlp] at hpr hlb hGj2
      obtain ⟨ln, rfl⟩ : ∃ x : Nat, lp = (x : Int) := ⟨lp.toNat, by omega⟩
      rw [Int.toNat_natCast] at hGj2
      have hpwc := Lib.hid (fun w => (powI_any p c ln w hp hp2 hc0 hc1 (by omega)).mono fun e w' h => (show e = .returned (.int .i64 (pw p c ln)) ∧ w' = w from ⟨h.1, h.2.symm⟩))
      have hpr0 := pw_range p c hp ln
      obtain ⟨v, hv⟩ : ∃ v, pw p c ln = v := ⟨_, rfl⟩
      rw [hv] at hpwc hpr0 hGj2
      have m2 : 0 ≤ f2 * v ∧ f2 * v ≤ 1000000 := ⟨Int.mul_nonneg k0 (by omega), by have h1 := Int.mul_le_mul_of_nonneg_right k1 (show 0 ≤ v by omega); have h2 := Int.mul_le_mul_of_nonneg_left (show v ≤ 100 by omega) (show (0 : Int) ≤ 100 by omega); omega⟩
      obtain ⟨u2, hu2⟩ : ∃ u, f2 * v = u := ⟨_, rfl⟩
      rw [hu2] at m2 hGj2
      have wf2 : IntKind.i64.wrap (f2 * v) = u2 := by rw [hu2]; exact IntWalk.i64_in _ (by omega)
      have hadd := Lib.hid (fun W hM => add_any (w.heap.size + 1 + 1) k (G j) p u2 n2 P W hM (hGg.out j) hpv hp hp2 (by omega) (by omega) (by omega))
      rw [← hGj2.out] at hadd
      have hPl := Lib.hid hpv.2.1
      clear hvd2 hGj htd2 hyj rT hP hlp hv hpv m2 hu2 hlb hpr0
      go_upto_region 6 with (first
        | ((with_reducible refine (hpr.out w5 b5).mono ?_); rintro e w6 ⟨rfl, hB6⟩; have oX6 := oX5.below hB6 oX5.lt; have oR6 := oR5.below hB6 oR5.lt; have oT6 := hO5.below hB6 hO5.lt; have sM6 := sM5.below hB6 sM5.lt; have b6 := b5.trans (hB6.mono b5.size))
        | (refine wpList_load_at rfl 68 (.tmp 23) rfl ⟨wr.heap.size, 0, none⟩ rfl (dcells n em).toList _ d5t.out Try.underlying68 rfl (by rw [dl17 hel.out]; kernel_rfl) ?_)
        | (refine wpList_store_own rfl 68 _ _ rfl _ _ rfl rfl 68 _ (Own.new w6 _ _) (row26 (d17 _ _ (hPl.out))) (by rw [d17 _ _ hPl.out]; rfl) (dcells_one _ _) ?_; intro w7 hO7 hN7)
        | (refine wpList_load_at rfl 71 (.tmp 19) rfl (a.add (j * 18)) rfl (tcl (n, em, f2)) _ hc.out Try.underlying71 rfl (by rw [h18b.out]; kernel_rfl) ?_)
        | (refine wpList_store_own rfl 71 _ _ rfl _ _ rfl rfl 71 _ (Own.new wr (tcl zT).toArray 71) (row52 hs18b.out) (by rw [hz18.out, hs18b.out]) (one_tcl _) ?_; intro w5 hO5 hN5; have oX5 := (oX.alloc (.cells (tcl zT).toArray 71)).only hN5 (by have := oX.lt; omega); have oR5 := (oR.alloc (.cells (tcl zT).toArray 71)).only hN5 (by have := oR.lt; omega); have sM5 : Smp w5 (w.heap.size + 1 + 1) k (G j) := (sM.alloc (.cells (tcl zT).toArray 71)).only hN5 (by have := sM.lt; omega); have b5 : Below w.heap.size w w5 := (hB.alloc hB.size (.cells (tcl zT).toArray 71)).trans (hN5.below.mono hB.size); have d5t := Lib.hid (fun j v (hv : (dcells n em).toList[j]? = some v) => show w5.cell? ((⟨wr.heap.size, 0, none⟩ : Addr).add j) = some v from by rw [Addr.add_mid, Nat.zero_add, hO5.cell, List.getElem?_toArray]; exact tcl_dia hv)))
      have oX7 := (oX6.alloc _).only hN7 (by have := oX6.lt; omega)
      have oR7 := (oR6.alloc _).only hN7 (by have := oR6.lt; omega)
      have oT7 := (oT6.alloc _).only hN7 (by have := oT6.lt; omega)
      have sM7 := (sM6.alloc _).only hN7 (by have := sM6.lt; omega)
      have b7 : Below w.heap.size w w7 := (b6.alloc b6.size _).trans (hN7.below.mono b6.size)
      refine wp_region_still_tail 13 (by kernel_rfl) (by kernel_rfl) ?_
      change wpStill _ _ w7.drew (fun a' => wpList _ _ _ _ a' w7.drew) _ _
      have oXd : Own w7.drew w.heap.size #[.int .i64 p, .int .i64 c, .int .i64 n, .slice (some a) l cap] 28 := oX7
      have oRd : Own w7.drew (w.heap.size + 1) #[.int .i64 0, .int .i64 0, .int .i64 0, .slice none 0 0] 28 := oR7
      have oTd : Own w7.drew wr.heap.size (tcl (n, em, f2)).toArray 71 := oT7
      have oPd : Own w7.drew w6.heap.size (dcells n2 P) 68 := hO7
      have sMd : Smp w7.drew (w.heap.size + 1 + 1) k (G j) := sM7.drew
      have bd : Below w.heap.size w w7.drew := b7.drew
      have x0 : w7.drew.cell? ⟨w.heap.size, 0, none⟩ = some (.int .i64 p) := oXd.cell 0
      have x1 : w7.drew.cell? ⟨w.heap.size, 1, none⟩ = some (.int .i64 c) := oXd.cell 1
      have t17 : w7.drew.cell? ⟨wr.heap.size, 17, none⟩ = some (.int .i64 f2) := by rw [oTd.cell, List.getElem?_toArray]; exact tcl_fac hel.out
      clear oX7 oR7 oT7 hO7 sM7 b7 hN7 oX6 oR6 oT6 sM6 b6 hB6 hc d5t oX5 oR5 sM5 b5 hO5 hN5 oX oR sM hB
      generalize w7.drew = wd at *
      simp only [List.take_succ_cons, List.take_zero, List.drop_succ_cons, List.drop_zero]
      still_step
      still_step
      still_step
      refine wpStill_step (fun K' hK' => ?_)
      rw [if_pos (by rfl)]
      refine still_load_row 68 (.tmp 11) rfl w6.heap.size rfl 68 (dcells n2 P) _ oPd Try.underlying68 rfl (row26 (d17 _ _ hPl.out)) ?_
      refine hK' _ ?_
      clear hK' K'
      still_step
      still_step
      still_step
      still_step
      still_step
      still_step
      still_step
      still_call (hpwc.out wd)
      still_step
      refine wpStill_nil ?_
      go_wp2_with (first
        | (go_at_call 70; ((with_reducible refine (hadd.out _ sMd).mono ?_); rintro e w8 ⟨rfl, sM8, hG8⟩)))
      have oX8 := (hG8.block _ oXd.lt (fun e => by have := Option.some.inj e; omega)).trans oXd
      have oR8 := (hG8.block _ oRd.lt (fun e => by have := Option.some.inj e; omega)).trans oRd
      have b8 : Below w.heap.size w w8 := bd.grown hG8 bd.size (fun j e => by obtain rfl : _ = j := Option.some.inj e; omega)
      go_roundw
      case rel => exact ⟨j + 1, k + 1, by omega, by go_num, by omega, oX8, oR8, sM8, b8⟩
      case measure => simp [intOf]; omega
    · obtain rfl : j = l := by omega
      have x0 : wr.cell? ⟨w.heap.size, 0, none⟩ = some (.int .i64 p) := oX.cell 0
      have x1 : wr.cell? ⟨w.heap.size, 1, none⟩ = some (.int .i64 c) := oX.cell 1
      rw [hGe.out] at sM
      go_wp2_with (first
        | (go_at_call 51; ((with_reducible refine (heos.out _ k wr sM).mono ?_); rintro e w5 ⟨qt, mt, ct, rfl, hT5, hB5⟩; have oR5 := oR.below hB5 oR.lt; have b5 := hB.trans (hB5.mono hB.size)))
        | (refine wpList_store_own rfl 28 _ _ rfl _ _ rfl rfl 28 _ oR5 (by kernel_rfl) rfl (by simp [Value.oneCell']) ?_; intro w6 oR6 hN6))
      obtain ⟨rfl, hr⟩ := hT5.res
      have hr6 : Res w6 w.heap.size qt R := (hr.onl hN6 (by have := Own.lt oR; omega)).weak hB.size
      refine bodyPost_ret (v := .tuple #[.agg #[.int .i64 p, .int .i64 c, .int .i64 n2, .slice qt R.length ct], .int .i64 0]) (results_row_tmp rfl _ _ _ _ _ (0, 0) _ rfl oR6 Try.underlying28 rfl (by kernel_rfl) _ rfl) rfl ⟨⟨qt, ct, rfl, hr6⟩, b5.trans (hN6.below.mono (by omega))⟩
end Go.Proofs.Ytpmcngmphkegnaa
