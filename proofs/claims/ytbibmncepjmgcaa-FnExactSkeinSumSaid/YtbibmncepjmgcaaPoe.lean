/- Products of elements: the program's map. -/
import Derived.Test.YtbibmncepjmgcaaAdp
import Derived.Test.YtbibmncepjmgcaaMulS
import Derived.Test.YtbibmncepjmgcaaKp
import Derived.Test.YtbibmncepjmgcaaKq
namespace Go.Proofs.Ytbibmncepjmgcaa
open Go.RowKit Go.Lib
set_option linter.unusedVariables false
set_option linter.unusedSimpArgs false
theorem lp_bd (n : Int) (d e : Int → Int) (h1 : 1 ≤ n) (h8 : n ≤ 8) : 0 ≤ loopsP n d e ∧ loopsP n d e ≤ 8 := by
  have := LoopM.lps_bd e (vD n d) (metA n d e) n.toNat
  unfold loopsP
  omega
/-- The product of two diagrams of one size is one. -/
theorem prod_vd {n : Int} {ds es : List Int} (h1 : VD (n, ds)) (h2 : VD (n, es)) : VD (n, prodL n (mate ds) (mate es)) := by
  have s1 := (isD_iff n ds h1.2.1 h1.2.2).1 h1.1
  have s2 := (isD_iff n es h2.2.1 h2.2.2).1 h2.1
  have m1 := mt_of h1.2.2 s1
  have m2 := mt_of h2.2.2 s2
  have hb := prod_bytes m1 m2 s1.1.1 s1.1.2
  exact ⟨(isD_iff n _ (prodL_len _ _ _) hb).2 (prod_isS m1 m2 (nc_of h1.2.2 s1) (nc_of h2.2.2 s2) s1.1.1 s1.1.2), prodL_len _ _ _, hb⟩
/-- A term times a term. -/
def mlT (p c n : Int) (s t : Tm) : Tu := ((n, prodL n (mate s.2.1) (mate t.2.1)), s.2.2 * t.2.2 * pw p c (loopsP n (mate s.2.1) (mate t.2.1)).toNat)
/-- All terms times all terms, in order. -/
def prU (p c n : Int) (xs ys : List Tm) : List Tu := xs.flatMap fun s => ys.map (mlT p c n s)
/-- The product of two sums. -/
def prN (p c n : Int) (xs ys : List Tm) : List Tm := adds p (prU p c n xs ys) []
theorem prU_take (p c n : Int) (xs ys : List Tm) (i : Nat) (hi : i < xs.length) : prU p c n (xs.take (i + 1)) ys = prU p c n (xs.take i) ys ++ ys.map (mlT p c n xs[i]) := by
  rw [← List.take_append_getElem hi]
  unfold prU
  rw [List.flatMap_append]
  simp
theorem prU_vd {p c n : Int} {xs ys : List Tm} (hx : ∀ t ∈ xs, t.1 = n ∧ VD (kTm t)) (hy : ∀ t ∈ ys, t.1 = n ∧ VD (kTm t)) : ∀ u ∈ prU p c n xs ys, VD u.1 := by
  intro u hu
  unfold prU at hu
  obtain ⟨s, hs, hu⟩ := List.mem_flatMap.1 hu
  obtain ⟨t, ht, rfl⟩ := List.mem_map.1 hu
  have a := hx s hs
  have b := hy t ht
  have a2 : VD (s.1, s.2.1) := a.2
  have b2 : VD (t.1, t.2.1) := b.2
  rw [a.1] at a2
  rw [b.1] at b2
  exact prod_vd a2 b2
theorem prN_good {p c n : Int} (hp : 0 < p) {xs ys : List Tm} (hx : ∀ t ∈ xs, t.1 = n ∧ VD (kTm t)) (hy : ∀ t ∈ ys, t.1 = n ∧ VD (kTm t)) : GoodT p (prN p c n xs ys) :=
  adds_good hp _ _ (prU_vd hx hy) (Good.nil p)
theorem prU_len (p c n : Int) (xs ys : List Tm) : (prU p c n xs ys).length = xs.length * ys.length := by
  unfold prU
  induction xs with
  | nil => simp
  | cons x xs ih => rw [List.flatMap_cons, List.length_append, ih, List.length_map, List.length_cons, Nat.succ_mul]; omega
theorem prN_len (p c n : Int) (xs ys : List Tm) : (prN p c n xs ys).length ≤ xs.length * ys.length := by
  have := adds_len p (prU p c n xs ys) []
  rw [prU_len, List.length_nil, Nat.zero_add] at this
  exact this
set_option maxRecDepth 100000 in
set_option maxHeartbeats 8000000 in
theorem poeI_any (p c n p2 c2 n2 sz : Int) (q q2 : Option Addr) (cap cap2 : Nat) (xs ys : List Tm) (hx : ∀ t ∈ xs, t.1 = sz ∧ VD (kTm t) ∧ 0 ≤ t.2.2 ∧ t.2.2 ≤ 100) (hy : ∀ t ∈ ys, t.1 = sz ∧ VD (kTm t) ∧ 0 ≤ t.2.2 ∧ t.2.2 ≤ 100) (hxl : xs.length ≤ 140) (hyl : ys.length ≤ 140) (hp : 2 ≤ p) (hp2 : p ≤ 97) (hc0 : 0 ≤ c) (hc1 : c < p) (w : World) (hR : RdT w q xs) (hR2 : RdT w q2 ys) :
    Calls Try.prog 40 #[.agg (ecl p c n (.slice q xs.length cap)), .agg (ecl p2 c2 n2 (.slice q2 ys.length cap2))] w fun e w' => (∃ b nn, e = .returned (.map (some b)) ∧ nn ≤ 200000 ∧ w.heap.size ≤ b ∧ Smp w' b nn (prN p c sz xs ys)) ∧ Below w.heap.size w w' := by
  have hpp : 0 < p := by omega
  have hgx := Lib.hid (fun (i : Nat) (hi : i < xs.length) => show ∃ dm f, xs.getD i zT = (sz, dm, f) ∧ VD (sz, dm) ∧ 0 ≤ f ∧ f ≤ 100 ∧ xs[i] = (sz, dm, f) from by
    obtain ⟨⟨dn, dm, f⟩, h⟩ : ∃ t, xs[i] = t := ⟨_, rfl⟩
    have hm : (dn, dm, f) ∈ xs := by rw [← h]; exact List.getElem_mem hi
    obtain ⟨rfl, b, c, d⟩ := hx _ hm
    exact ⟨dm, f, by rw [List.getD_eq_getElem?_getD, List.getElem?_eq_getElem hi, h]; rfl, b, c, d, h⟩)
  have hgy := Lib.hid (fun (i : Nat) (hi : i < ys.length) => show ∃ dm f, ys.getD i zT = (sz, dm, f) ∧ VD (sz, dm) ∧ 0 ≤ f ∧ f ≤ 100 ∧ ys[i] = (sz, dm, f) from by
    obtain ⟨⟨dn, dm, f⟩, h⟩ : ∃ t, ys[i] = t := ⟨_, rfl⟩
    have hm : (dn, dm, f) ∈ ys := by rw [← h]; exact List.getElem_mem hi
    obtain ⟨rfl, b, c, d⟩ := hy _ hm
    exact ⟨dm, f, by rw [List.getD_eq_getElem?_getD, List.getElem?_eq_getElem hi, h]; rfl, b, c, d, h⟩)
  have hxv : ∀ i, ∀ u ∈ prU p c sz (xs.take i) ys, VD u.1 := fun i => prU_vd (fun t ht => ⟨(hx t (List.mem_of_mem_take ht)).1, (hx t (List.mem_of_mem_take ht)).2.1⟩) (fun t ht => ⟨(hy t ht).1, (hy t ht).2.1⟩)
  obtain ⟨F, hF⟩ : ∃ F : Nat → List Tm, F = fun i => adds p (prU p c sz (xs.take i) ys) [] := ⟨_, rfl⟩
  have hFg := Lib.hid (fun i => show GoodT p (F i) from by rw [hF]; exact adds_good hpp _ _ (hxv i) (Good.nil p))
  have hF0 := Lib.hid (show F 0 = [] by rw [hF]; rfl)
  have hFe := Lib.hid (show F xs.length = prN p c sz xs ys by rw [hF]; unfold prN; simp only [List.take_length])
  have hFs := Lib.hid (fun (i : Nat) (hi : i < xs.length) => show F (i + 1) = adds p (ys.map (mlT p c sz xs[i])) (F i) from by
    rw [hF]; show adds p (prU p c sz (xs.take (i + 1)) ys) [] = _; rw [prU_take _ _ _ _ _ _ hi, adds_append])
  have hR1' := Lib.hid (fun w' (hb : Below w.heap.size w w') => hR.below hb)
  have hR2' := Lib.hid (fun w' (hb : Below w.heap.size w w') => hR2.below hb)
  obtain ⟨R, hRR⟩ : ∃ R, prN p c sz xs ys = R := ⟨_, rfl⟩
  rw [hRR] at hFe ⊢
  obtain ⟨l, hl⟩ : ∃ l, xs.length = l := ⟨_, rfl⟩
  obtain ⟨m, hm⟩ : ∃ m, ys.length = m := ⟨_, rfl⟩
  have hll := Lib.hid hl
  have hmm := Lib.hid hm
  rw [hl] at hxl hFe
  rw [hm] at hyl
  rw [hl, hm]
  have hmk : ∀ w : World, (Instr.makeMap 64 none).run Try.prog w = .ok (.map (some w.heap.size)) (w.alloc (.map #[] 0)) := fun w => rfl
  clear hx hy hxv hF hR hR2 hRR hl hm
  unfold ecl at *
  go_enter Try.func40, Try.ntmps40
  go_wp2
  have oX0 : Own (((w.alloc (.cells #[.int .i64 p, .int .i64 c, .int .i64 n, .slice q l cap] 30)).alloc (.cells #[.int .i64 p2, .int .i64 c2, .int .i64 n2, .slice q2 m cap2] 30)).alloc (.map #[] 0)) w.heap.size #[.int .i64 p, .int .i64 c, .int .i64 n, .slice q l cap] 30 := ((Own.new _ _ _).alloc _).alloc _
  have oY0 : Own (((w.alloc (.cells #[.int .i64 p, .int .i64 c, .int .i64 n, .slice q l cap] 30)).alloc (.cells #[.int .i64 p2, .int .i64 c2, .int .i64 n2, .slice q2 m cap2] 30)).alloc (.map #[] 0)) (w.heap.size + 1) #[.int .i64 p2, .int .i64 c2, .int .i64 n2, .slice q2 m cap2] 30 := (Own.at _ _ _ (by simp)).alloc _
  have sM0 : Smp (((w.alloc (.cells #[.int .i64 p, .int .i64 c, .int .i64 n, .slice q l cap] 30)).alloc (.cells #[.int .i64 p2, .int .i64 c2, .int .i64 n2, .slice q2 m cap2] 30)).alloc (.map #[] 0)) (w.heap.size + 1 + 1) 0 [] := by
    have := Smp.new ((w.alloc (.cells #[.int .i64 p, .int .i64 c, .int .i64 n, .slice q l cap] 30)).alloc (.cells #[.int .i64 p2, .int .i64 c2, .int .i64 n2, .slice q2 m cap2] 30))
    simpa using this
  have b0 : Below w.heap.size w (((w.alloc (.cells #[.int .i64 p, .int .i64 c, .int .i64 n, .slice q l cap] 30)).alloc (.cells #[.int .i64 p2, .int .i64 c2, .int .i64 n2, .slice q2 m cap2] 30)).alloc (.map #[] 0)) := (((Below.refl _ w).alloc (Nat.le_refl _) _).alloc (by simp) _).alloc (by simp; omega) _
  go_loopw [19] (fun x wr => ∃ i nn : Nat, i ≤ l ∧ x = .int .i64 i ∧ nn ≤ i * 1000 ∧ Own wr w.heap.size #[.int .i64 p, .int .i64 c, .int .i64 n, .slice q l cap] 30 ∧ Own wr (w.heap.size + 1) #[.int .i64 p2, .int .i64 c2, .int .i64 n2, .slice q2 m cap2] 30 ∧ Smp wr (w.heap.size + 1 + 1) nn (F i) ∧ Below w.heap.size w wr) (fun x _ => (l - intOf x).toNat)
  case atStart => exact ⟨0, 0, by omega, rfl, by omega, oX0, oY0, by rw [hF0.out]; exact sM0, b0⟩
  case round =>
    clear oX0 oY0 sM0 b0
    obtain ⟨i, nn, hi, rfl, hnn, oX, oY, sM, hB⟩ := hrel
    by_cases hlt : i < l
    · have lI : (i : Int) < (l : Int) := by omega
      obtain ⟨dm, f, htd, hvd, f0, f1, hxi⟩ := hgx.out i (by rw [hll.out]; exact hlt)
      have hFi := hFs.out i (by rw [hll.out]; exact hlt)
      rw [hxi] at hFi
      have rT := hR1'.out _ hB
      obtain ⟨a, rfl⟩ : ∃ a, q = some a := by
        cases q with
        | none => have := rT.nil rfl; subst this; have := hll.out; simp at this; omega
        | some a => exact ⟨a, rfl⟩
      have hc := Lib.hid (fun j v hv => rT.cell a rfl i (by rw [hll.out]; exact hlt) j v (by rw [htd]; exact hv))
      have h18 := Lib.hid (tcl_len (t := (sz, dm, f)) hvd.2.1)
      have hz18 := Lib.hid (show (tcl zT).toArray.size = 18 by rfl)
      have hs18 := Lib.hid (show (tcl (sz, dm, f)).toArray.size = 18 by simp [tcl_len (t := (sz, dm, f)) hvd.2.1])
      have hdl := Lib.hid hvd.2.1
      have hvd' := Lib.hid hvd
      have hgF := Lib.hid (hFg.out i)
      obtain ⟨G, hG⟩ : ∃ G : Nat → List Tm, G = fun j => adds p ((ys.take j).map (mlT p c sz (sz, dm, f))) (F i) := ⟨_, rfl⟩
      have hG0 := Lib.hid (show G 0 = F i by rw [hG]; rfl)
      have hGe := Lib.hid (show G m = F (i + 1) by rw [hG, hFi, ← hmm.out]; simp only [List.take_length])
      have hGs := Lib.hid (fun (j : Nat) (hj : j < ys.length) => show G (j + 1) = addT p (mlT p c sz (sz, dm, f) ys[j]).1 (mlT p c sz (sz, dm, f) ys[j]).2 (G j) from by
        rw [hG]
        have := adds_take p (ys.map (mlT p c sz (sz, dm, f))) (F i) j (by rw [List.length_map]; exact hj)
        rw [List.getElem_map, ← List.map_take, ← List.map_take] at this
        exact this)
      have hGg := Lib.hid (fun j => show GoodT p (G j) from by
        rw [hG]
        refine adds_good hpp _ _ (fun u hu => ?_) hgF.out
        obtain ⟨t, ht, rfl⟩ := List.mem_map.1 hu
        obtain ⟨k, hk, e⟩ := List.mem_iff_getElem.1 (List.mem_of_mem_take ht)
        obtain ⟨dm2, f2, _, v2, _, _, e2⟩ := hgy.out k hk
        rw [e] at e2
        subst e2
        exact prod_vd hvd'.out v2)
      clear hG hFi hxi htd hvd rT
      go_wp2_with (first
        | (refine wpList_load_at rfl 56 (.tmp 21) rfl (a.add (i * 18)) rfl (tcl (sz, dm, f)) _ hc.out Try.underlying56 rfl (by rw [h18.out]; kernel_rfl) ?_)
        | (refine wpList_store_own rfl 56 _ _ rfl _ _ rfl rfl 56 _ (Own.new wr (tcl zT).toArray 56) (row52 hs18.out) (by rw [hz18.out, hs18.out]) (one_tcl _) ?_; intro w2 hO2 hN2; have oX2 := (oX.alloc (.cells (tcl zT).toArray 56)).only hN2 (by have := oX.lt; omega); have oY2 := (oY.alloc (.cells (tcl zT).toArray 56)).only hN2 (by have := oY.lt; omega); have sM2 : Smp w2 (w.heap.size + 1 + 1) nn (F i) := (sM.alloc (.cells (tcl zT).toArray 56)).only hN2 (by have := sM.lt; omega); have b2 : Below w.heap.size w w2 := (hB.alloc hB.size (.cells (tcl zT).toArray 56)).trans (hN2.below.mono hB.size); have y3 : w2.cell? ⟨w.heap.size + 1, 3, none⟩ = some (.slice q2 m cap2) := oY2.cell 3))
      obtain ⟨g8, hg8⟩ : ∃ g, wr.heap.size = g := ⟨_, rfl⟩
      rw [hg8] at hO2 ⊢
      have hg8b := hB.size
      rw [hg8] at hg8b
      have lM := sM.lt
      rw [hg8] at lM
      clear hN2 oX oY sM hB y3 hc hg8
      obtain ⟨wq, rfl⟩ : ∃ x, x = w2 := ⟨_, rfl⟩
      go_loopw [26] (fun x wr => ∃ j k : Nat, j ≤ m ∧ x = .int .i64 j ∧ k ≤ i * 1000 + j ∧ Own wr w.heap.size #[.int .i64 p, .int .i64 c, .int .i64 n, .slice (some a) l cap] 30 ∧ Own wr (w.heap.size + 1) #[.int .i64 p2, .int .i64 c2, .int .i64 n2, .slice q2 m cap2] 30 ∧ Own wr g8 (tcl (sz, dm, f)).toArray 56 ∧ Smp wr (w.heap.size + 1 + 1) k (G j) ∧ Below w.heap.size w wr) (fun x _ => (m - intOf x).toNat)
      case atStart => exact ⟨0, nn, by omega, rfl, by omega, oX2, oY2, hO2, by rw [hG0.out]; exact sM2, b2⟩
      case round =>
        clear oX2 oY2 hO2 sM2 b2
        obtain ⟨j, k, hj, rfl, hk, oX, oY, oS, sM, hB⟩ := hrel
        by_cases hlt2 : j < m
        · have lJ : (j : Int) < (m : Int) := by omega
          obtain ⟨em, f2, htd2, hvd2, k0, k1, hyj⟩ := hgy.out j (by rw [hmm.out]; exact hlt2)
          have hGj := hGs.out j (by rw [hmm.out]; exact hlt2)
          rw [hyj] at hGj
          have hGj2 := Lib.hid (show G (j + 1) = addT p (sz, prodL sz (mate dm) (mate em)) (f * f2 * pw p c (loopsP sz (mate dm) (mate em)).toNat) (G j) from hGj)
          have rT := hR2'.out _ hB
          obtain ⟨a2, rfl⟩ : ∃ a, q2 = some a := by
            cases q2 with
            | none => have := rT.nil rfl; subst this; have := hmm.out; simp at this; omega
            | some a => exact ⟨a, rfl⟩
          have hc := Lib.hid (fun j' v hv => rT.cell a2 rfl j (by rw [hmm.out]; exact hlt2) j' v (by rw [htd2]; exact hv))
          have h18b := Lib.hid (tcl_len (t := (sz, em, f2)) hvd2.2.1)
          have hs18b := Lib.hid (show (tcl (sz, em, f2)).toArray.size = 18 by simp [tcl_len (t := (sz, em, f2)) hvd2.2.1])
          have hel := Lib.hid hvd2.2.1
          have hsz : 1 ≤ sz ∧ sz ≤ 8 := ((isD_iff sz dm hvd'.out.2.1 hvd'.out.2.2).1 hvd'.out.1).1
          have hlb := lp_bd sz (mate dm) (mate em) hsz.1 hsz.2
          have hpv := prod_vd hvd'.out hvd2
          have hpr := Lib.hid (fun w => prodI_any sz dm em hvd'.out.2.1 hvd2.2.1 hvd'.out.2.2 hvd2.2.2 ((isD_iff sz dm hvd'.out.2.1 hvd'.out.2.2).1 hvd'.out.1) ((isD_iff sz em hvd2.2.1 hvd2.2.2).1 hvd2.1) w)
          obtain ⟨P, hP⟩ : ∃ P, prodL sz (mate dm) (mate em) = P := ⟨_, rfl⟩
          rw [hP] at hpr hpv hGj2
          obtain ⟨lp, hlp⟩ : ∃ x, loopsP sz (mate dm) (mate em) = x := ⟨_, rfl⟩
          rw [hlp] at hpr hlb hGj2
          obtain ⟨ln, rfl⟩ : ∃ x : Nat, lp = (x : Int) := ⟨lp.toNat, by omega⟩
          rw [Int.toNat_natCast] at hGj2
          have hpwc := Lib.hid (fun w => (powI_any p c ln w hp hp2 hc0 hc1 (by omega)).mono fun e w' h => (show e = .returned (.int .i64 (pw p c ln)) ∧ w' = w from ⟨h.1, h.2.symm⟩))
          have hpr0 := pw_range p c hp ln
          obtain ⟨v, hv⟩ : ∃ v, pw p c ln = v := ⟨_, rfl⟩
          rw [hv] at hpwc hpr0 hGj2
          have m1 : 0 ≤ f * f2 ∧ f * f2 ≤ 10000 := ⟨Int.mul_nonneg f0 k0, by have h1 := Int.mul_le_mul_of_nonneg_right f1 k0; have h2 := Int.mul_le_mul_of_nonneg_left k1 (show (0 : Int) ≤ 100 by omega); omega⟩
          obtain ⟨u1, hu1⟩ : ∃ u, f * f2 = u := ⟨_, rfl⟩
          rw [hu1] at m1 hGj2
          have m2 : 0 ≤ u1 * v ∧ u1 * v ≤ 1000000 := ⟨Int.mul_nonneg m1.1 (by omega), by have h1 := Int.mul_le_mul_of_nonneg_right m1.2 (show 0 ≤ v by omega); have h2 := Int.mul_le_mul_of_nonneg_left (show v ≤ 100 by omega) (show (0 : Int) ≤ 10000 by omega); omega⟩
          have wf1 : IntKind.i64.wrap (f * f2) = u1 := by rw [hu1]; exact IntWalk.i64_in _ (by omega)
          obtain ⟨u2, hu2⟩ : ∃ u, u1 * v = u := ⟨_, rfl⟩
          rw [hu2] at m2 hGj2
          have wf2 : IntKind.i64.wrap (u1 * v) = u2 := by rw [hu2]; exact IntWalk.i64_in _ (by omega)
          have hadd := Lib.hid (fun W hM => add_any (w.heap.size + 1 + 1) k (G j) p u2 sz P W hM (hGg.out j) hpv hp hp2 (by omega) (by omega) (by omega))
          rw [← hGj2.out] at hadd
          have hPl := Lib.hid hpv.2.1
          clear hvd2 hGj htd2 hyj rT hP hlp hv hpv m1 m2 hu1 hu2 hlb hpr0
          go_upto_region 10 with (first
            | (go_at_call 80; ((with_reducible refine (hpr.out w5).mono ?_); rintro e w6 ⟨rfl, hB6⟩; have oX6 := oX5.below hB6 oX5.lt; have oY6 := oY5.below hB6 oY5.lt; have oS6 := oS5.below hB6 oS5.lt; have oT6 := hO5.below hB6 hO5.lt; have sM6 := sM5.below hB6 sM5.lt; have b6 := b5.trans (hB6.mono b5.size)))
            | (refine wpList_load_at rfl 53 (.tmp 33) rfl ⟨wr.heap.size, 0, none⟩ rfl (dcells sz em).toList _ d5t.out Try.underlying53 rfl (by rw [dl17 hel.out]; kernel_rfl) ?_)
            | (refine wpList_load_at rfl 53 (.tmp 31) rfl ⟨g8, 0, none⟩ rfl (dcells sz dm).toList _ d5s.out Try.underlying53 rfl (by rw [dl17 hdl.out]; kernel_rfl) ?_)
            | (refine wpList_store_own rfl 53 _ _ rfl _ _ rfl rfl 53 _ (Own.new w6 _ _) (row26 (d17 _ _ (hPl.out))) (by rw [d17 _ _ hPl.out]; rfl) (dcells_one _ _) ?_; intro w7 hO7 hN7)
            | (refine wpList_load_at rfl 56 (.tmp 28) rfl (a2.add (j * 18)) rfl (tcl (sz, em, f2)) _ hc.out Try.underlying56 rfl (by rw [h18b.out]; kernel_rfl) ?_)
            | (refine wpList_store_own rfl 56 _ _ rfl _ _ rfl rfl 56 _ (Own.new wr (tcl zT).toArray 56) (row52 hs18b.out) (by rw [hz18.out, hs18b.out]) (one_tcl _) ?_; intro w5 hO5 hN5; have oX5 := (oX.alloc (.cells (tcl zT).toArray 56)).only hN5 (by have := oX.lt; omega); have oY5 := (oY.alloc (.cells (tcl zT).toArray 56)).only hN5 (by have := oY.lt; omega); have oS5 := (oS.alloc (.cells (tcl zT).toArray 56)).only hN5 (by have := oS.lt; omega); have sM5 : Smp w5 (w.heap.size + 1 + 1) k (G j) := (sM.alloc (.cells (tcl zT).toArray 56)).only hN5 (by have := sM.lt; omega); have b5 : Below w.heap.size w w5 := (hB.alloc hB.size (.cells (tcl zT).toArray 56)).trans (hN5.below.mono hB.size); have d5s := Lib.hid (fun j v (hv : (dcells sz dm).toList[j]? = some v) => show w5.cell? ((⟨g8, 0, none⟩ : Addr).add j) = some v from by rw [Addr.add_mid, Nat.zero_add, oS5.cell, List.getElem?_toArray]; exact tcl_dia hv); have d5t := Lib.hid (fun j v (hv : (dcells sz em).toList[j]? = some v) => show w5.cell? ((⟨wr.heap.size, 0, none⟩ : Addr).add j) = some v from by rw [Addr.add_mid, Nat.zero_add, hO5.cell, List.getElem?_toArray]; exact tcl_dia hv)))
          have oX7 := (oX6.alloc _).only hN7 (by have := oX6.lt; omega)
          have oY7 := (oY6.alloc _).only hN7 (by have := oY6.lt; omega)
          have oS7 := (oS6.alloc _).only hN7 (by have := oS6.lt; omega)
          have oT7 := (oT6.alloc _).only hN7 (by have := oT6.lt; omega)
          have sM7 := (sM6.alloc _).only hN7 (by have := sM6.lt; omega)
          have b7 : Below w.heap.size w w7 := (b6.alloc b6.size _).trans (hN7.below.mono b6.size)
          refine wp_region_still_tail 14 (by kernel_rfl) (by kernel_rfl) ?_
          change wpStill _ _ w7.drew (fun a' => wpList _ _ _ _ a' w7.drew) _ _
          have oXd : Own w7.drew w.heap.size #[.int .i64 p, .int .i64 c, .int .i64 n, .slice (some a) l cap] 30 := oX7
          have oYd : Own w7.drew (w.heap.size + 1) #[.int .i64 p2, .int .i64 c2, .int .i64 n2, .slice (some a2) m cap2] 30 := oY7
          have oSd : Own w7.drew g8 (tcl (sz, dm, f)).toArray 56 := oS7
          have oTd : Own w7.drew wr.heap.size (tcl (sz, em, f2)).toArray 56 := oT7
          have oPd : Own w7.drew w6.heap.size (dcells sz P) 53 := hO7
          have sMd : Smp w7.drew (w.heap.size + 1 + 1) k (G j) := sM7.drew
          have bd : Below w.heap.size w w7.drew := b7.drew
          have x1 : w7.drew.cell? ⟨w.heap.size, 1, none⟩ = some (.int .i64 c) := oXd.cell 1
          have s17 : w7.drew.cell? ⟨g8, 17, none⟩ = some (.int .i64 f) := by rw [oSd.cell, List.getElem?_toArray]; exact tcl_fac hdl.out
          have t17 : w7.drew.cell? ⟨wr.heap.size, 17, none⟩ = some (.int .i64 f2) := by rw [oTd.cell, List.getElem?_toArray]; exact tcl_fac hel.out
          clear oX7 oY7 oS7 oT7 hO7 sM7 b7 hN7 oX6 oY6 oS6 oT6 sM6 b6 hB6 hc d5s d5t oX5 oY5 oS5 sM5 b5 hO5 hN5 oX oY oS sM hB
          generalize w7.drew = wd at *
          simp only [List.take_succ_cons, List.take_zero, List.drop_succ_cons, List.drop_zero]
          still_step
          still_step
          refine wpStill_step (fun K' hK' => ?_)
          rw [if_pos (by rfl)]
          refine still_load_row 53 (.tmp 11) rfl w6.heap.size rfl 53 (dcells sz P) _ oPd Try.underlying53 rfl (row26 (d17 _ _ hPl.out)) ?_
          refine hK' _ ?_
          clear hK' K'
          still_step
          still_step
          still_step
          still_step
          still_step
          still_step
          still_step
          still_step
          still_step
          still_call (hpwc.out wd)
          still_step
          refine wpStill_nil ?_
          go_wp2_with (first
            | (go_at_call 81; ((with_reducible refine (hadd.out _ sMd).mono ?_); rintro e w8 ⟨rfl, sM8, hG8⟩)))
          have oX8 := (hG8.block _ oXd.lt (fun e => by have := Option.some.inj e; omega)).trans oXd
          have oY8 := (hG8.block _ oYd.lt (fun e => by have := Option.some.inj e; omega)).trans oYd
          have oS8 := (hG8.block _ oSd.lt (fun e => by have := Option.some.inj e; omega)).trans oSd
          have b8 : Below w.heap.size w w8 := bd.grown hG8 bd.size (fun j e => by obtain rfl : _ = j := Option.some.inj e; omega)
          go_roundw
          case rel => exact ⟨j + 1, k + 1, by omega, by go_num, by omega, oX8, oY8, oS8, sM8, b8⟩
          case measure => simp [intOf]; omega
        · obtain rfl : j = m := by omega
          go_wp2
          go_roundw
          case rel => exact ⟨i + 1, k, by omega, by go_num, by omega, oX, oY, by rw [← hGe.out]; exact sM, hB⟩
          case measure => simp [intOf]; omega
    · obtain rfl : i = l := by omega
      go_wp2
      go_ret
      exact ⟨⟨_, nn, rfl, by omega, by omega, by rw [← hFe.out]; exact sM⟩, hB⟩
end Go.Proofs.Ytbibmncepjmgcaa
