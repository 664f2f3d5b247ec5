/- Products of elements: the model's l02Times. (Written by genpos.py.) -/
import Derived.Test.YtbibmncepjmgcaaPoe
import Derived.Test.YtbibmncepjmgcaaGfr
import Derived.Test.YtbibmncepjmgcaaPwr
import Derived.Test.YtbibmncepjmgcaaKi
namespace Go.Proofs.Ytbibmncepjmgcaa
open Go.RowKit Go.Lib
set_option linter.unusedVariables false
set_option linter.unusedSimpArgs false
theorem prN_take_len (p c n : Int) (xs ys : List Tm) (i : Nat) : (adds p (prU p c n (xs.take i) ys) []).length ≤ xs.length * ys.length := by
  have := prN_len p c n (xs.take i) ys
  have h2 : (xs.take i).length * ys.length ≤ xs.length * ys.length := Nat.mul_le_mul_right _ (by rw [List.length_take]; omega)
  exact Nat.le_trans this h2
set_option maxRecDepth 100000 in
set_option maxHeartbeats 16000000 in
theorem timS_any (p c n p2 c2 n2 sz : Int) (a1 a2 cap1 cap2 : Nat) (xs ys : List Tm) (hx : ∀ t ∈ xs, t.1 = sz ∧ VD (kTm t) ∧ 0 ≤ t.2.2 ∧ t.2.2 ≤ 100) (hy : ∀ t ∈ ys, t.1 = sz ∧ VD (kTm t) ∧ 0 ≤ t.2.2 ∧ t.2.2 ≤ 100) (hxl : xs.length ≤ 140) (hyl : ys.length ≤ 140) (hp : 2 ≤ p) (hp2 : p ≤ 97) (hc0 : 0 ≤ c) (hc1 : c < p) (w : World) (hR : RdT w (some ⟨a1, 0, none⟩) xs) (hR2 : RdT w (some ⟨a2, 0, none⟩) ys) :
    Calls Try.prog 34 #[.agg (ecl p c n (.slice (some ⟨a1, 0, none⟩) xs.length cap1)), .agg (ecl p2 c2 n2 (.slice (some ⟨a2, 0, none⟩) ys.length cap2))] w fun e w' => (∃ g cap, e = .returned (.agg (ecl p c n (.slice (some ⟨g, 0, none⟩) (prN p c sz xs ys).length cap))) ∧ (prN p c sz xs ys).length ≤ cap ∧ MnT w' w.heap.size g (prN p c sz xs ys)) ∧ Below w.heap.size w w' := by
  have hpp : 0 < p := by omega
  have hgx := Lib.hid (fun (i : Nat) (hi : i < xs.length) => show ∃ dm f, xs.getD i zT = (sz, dm, f) ∧ VD (sz, dm) ∧ 0 ≤ f ∧ f ≤ 100 ∧ xs[i] = (sz, dm, f) from by
    obtain ⟨⟨dn, dm, f⟩, h⟩ : ∃ t, xs[i] = t := ⟨_, rfl⟩
    have hm : (dn, dm, f) ∈ xs := by rw [← h]; exact List.getElem_mem hi
    obtain ⟨rfl, b, c, d⟩ := hx _ hm
    exact ⟨dm, f, by rw [List.getD_eq_getElem?_getD, List.getElem?_eq_getElem hi, h]; rfl, b, c, d, h⟩)
  have hgy := Lib.hid (fun (i : Nat) (hi : i < ys.length) => show ∃ dm f, ys.getD i zT = (sz, dm, f) ∧ VD (sz, dm) ∧ 0 ≤ f ∧ f ≤ 100 ∧ ys[i] = (sz, dm, f) from by
    obtain ⟨⟨dn, dm, f⟩, h⟩ : ∃ t, ys[i] = t := ⟨_, rfl⟩
    have hm : (dn, dm, f) ∈ ys := by rw [← h]; exact List.getElem_mem hi
    obtain ⟨rfl, b, c, d⟩ := hy _ hm
    exact ⟨dm, f, by rw [List.getD_eq_getElem?_getD, List.getElem?_eq_getElem hi, h]; rfl, b, c, d, h⟩)
  have hxv : ∀ i, ∀ u ∈ prU p c sz (xs.take i) ys, VD u.1 := fun i => prU_vd (fun t ht => ⟨(hx t (List.mem_of_mem_take ht)).1, (hx t (List.mem_of_mem_take ht)).2.1⟩) (fun t ht => ⟨(hy t ht).1, (hy t ht).2.1⟩)
  obtain ⟨F, hF⟩ : ∃ F : Nat → List Tm, F = fun i => adds p (prU p c sz (xs.take i) ys) [] := ⟨_, rfl⟩
  have hFg := Lib.hid (fun i => show GoodT p (F i) from by rw [hF]; exact adds_good hpp _ _ (hxv i) (Good.nil p))
  have hF0 := Lib.hid (show F 0 = [] by rw [hF]; rfl)
  have hFe := Lib.hid (show F xs.length = prN p c sz xs ys by rw [hF]; unfold prN; simp only [List.take_length])
  have hFl := Lib.hid (fun i => show (F i).length ≤ 19600 from by
    rw [hF]
    have h1 := prN_take_len p c sz xs ys i
    have h2 : xs.length * ys.length ≤ 140 * 140 := Nat.mul_le_mul hxl hyl
    show (adds p (prU p c sz (xs.take i) ys) []).length ≤ 19600
    omega)
  have hFs := Lib.hid (fun (i : Nat) (hi : i < xs.length) => show F (i + 1) = adds p (ys.map (mlT p c sz xs[i])) (F i) from by
    rw [hF]; show adds p (prU p c sz (xs.take (i + 1)) ys) [] = _; rw [prU_take _ _ _ _ _ _ hi, adds_append])
  have hR1' := Lib.hid (fun w' (hb : Below w.heap.size w w') => hR.below hb)
  have hR2' := Lib.hid (fun w' (hb : Below w.heap.size w w') => hR2.below hb)
  obtain ⟨R, hRR⟩ : ∃ R, prN p c sz xs ys = R := ⟨_, rfl⟩
  rw [hRR] at hFe ⊢
  have hem := Lib.hid (fun w => emptyS_any p c n (some ⟨a1, 0, none⟩) xs.length cap1 w)
  obtain ⟨l, hl⟩ : ∃ l, xs.length = l := ⟨_, rfl⟩
  obtain ⟨m, hm⟩ : ∃ m, ys.length = m := ⟨_, rfl⟩
  have hll := Lib.hid hl
  have hmm := Lib.hid hm
  rw [hl] at hxl hFe hem
  rw [hm] at hyl
  rw [hl, hm]
  clear hx hy hxv hF hR hR2 hRR hl hm
  unfold ecl at *
  go_enter Try.func34, Try.ntmps34
  go_wp2_with (first
    | (go_at_call 31; ((with_reducible refine (hem.out _).mono ?_); rintro e w1 ⟨g1, rfl, hg1, hO1, hB1⟩; have oX1 := (((Own.new w #[.int .i64 p, .int .i64 c, .int .i64 n, .slice (some ⟨a1, 0, none⟩) l cap1] 30).alloc (.cells #[.int .i64 p2, .int .i64 c2, .int .i64 n2, .slice (some ⟨a2, 0, none⟩) m cap2] 30)).alloc (.cells #[.int .i64 0, .int .i64 0, .int .i64 0, .slice none 0 0] 30)).below hB1 (by simp; omega); have oY1 := ((Own.at (w.alloc (.cells #[.int .i64 p, .int .i64 c, .int .i64 n, .slice (some ⟨a1, 0, none⟩) l cap1] 30)) #[.int .i64 p2, .int .i64 c2, .int .i64 n2, .slice (some ⟨a2, 0, none⟩) m cap2] 30 (by simp : _ = w.heap.size + 1)).alloc (.cells #[.int .i64 0, .int .i64 0, .int .i64 0, .slice none 0 0] 30)).below hB1 (by simp); have oR1 := (Own.at ((w.alloc (.cells #[.int .i64 p, .int .i64 c, .int .i64 n, .slice (some ⟨a1, 0, none⟩) l cap1] 30)).alloc (.cells #[.int .i64 p2, .int .i64 c2, .int .i64 n2, .slice (some ⟨a2, 0, none⟩) m cap2] 30)) #[.int .i64 0, .int .i64 0, .int .i64 0, .slice none 0 0] 30 (by simp : _ = w.heap.size + 1 + 1)).below hB1 (by simp); have b1 : Below w.heap.size w w1 := ((((Below.refl w.heap.size w).alloc (Nat.le_refl _) _).alloc (by simp) _).alloc (by simp; omega) _).trans (hB1.mono (by simp; omega)); have g1b : w.heap.size + 1 + 1 + 1 ≤ g1 := (by simpa using hg1); clear hB1))
    | (refine wpList_load_row rfl 30 _ rfl _ rfl 30 _ (0, 0) _ (((Own.new w #[.int .i64 p, .int .i64 c, .int .i64 n, .slice (some ⟨a1, 0, none⟩) l cap1] 30).alloc (.cells #[.int .i64 p2, .int .i64 c2, .int .i64 n2, .slice (some ⟨a2, 0, none⟩) m cap2] 30)).alloc (.cells #[.int .i64 0, .int .i64 0, .int .i64 0, .slice none 0 0] 30)) Try.underlying30 rfl (by kernel_rfl) ?_)
    | (refine wpList_store_own rfl 30 _ _ rfl _ _ rfl rfl 30 _ (Own.new w1 _ _) (by kernel_rfl) rfl (by simp [Value.oneCell']) ?_; intro w2 oE2 hN2))
  have lX := oX1.lt
  have lY := oY1.lt
  have lR := oR1.lt
  have lO := hO1.lt
  have oX2 := (oX1.alloc _).only hN2 (by omega)
  have oY2 := (oY1.alloc _).only hN2 (by omega)
  have oR2 := (oR1.alloc _).only hN2 (by omega)
  have hM2 : MnT w2 w.heap.size g1 [] := ⟨by omega, [], (hO1.alloc _).only hN2 (by omega)⟩
  have b2 : Below w.heap.size w w2 := (b1.alloc b1.size _).trans (hN2.below.mono b1.size)
  obtain ⟨e5, he5⟩ : ∃ e5, w1.heap.size = e5 := ⟨_, rfl⟩
  rw [he5] at oE2 lX lY lR lO ⊢
  clear oX1 oY1 oR1 hO1 b1 hN2 he5
  go_loopw [6] (fun x wr => ∃ i g cap : Nat, i ≤ l ∧ x = .int .i64 i ∧ (F i).length ≤ cap ∧ Own wr w.heap.size #[.int .i64 p, .int .i64 c, .int .i64 n, .slice (some ⟨a1, 0, none⟩) l cap1] 30 ∧ Own wr (w.heap.size + 1) #[.int .i64 p2, .int .i64 c2, .int .i64 n2, .slice (some ⟨a2, 0, none⟩) m cap2] 30 ∧ Own wr (w.heap.size + 1 + 1) #[.int .i64 0, .int .i64 0, .int .i64 0, .slice none 0 0] 30 ∧ Own wr e5 #[.int .i64 p, .int .i64 c, .int .i64 n, .slice (some ⟨g, 0, none⟩) (F i).length cap] 30 ∧ MnT wr w.heap.size g (F i) ∧ Below w.heap.size w wr) (fun x _ => (l - intOf x).toNat)
  case atStart => exact ⟨0, g1, 0, by omega, rfl, by rw [hF0.out]; simp, oX2, oY2, oR2, by rw [hF0.out]; exact oE2, by rw [hF0.out]; exact hM2, b2⟩
  case round =>
    clear oX2 oY2 oR2 oE2 hM2 b2
    obtain ⟨i, g, cap, hi, rfl, hcap, oX, oY, oR, oE, hM, hB⟩ := hrel
    have x3 : wr.cell? ⟨w.heap.size, 3, none⟩ = some (.slice (some ⟨a1, 0, none⟩) l cap1) := oX.cell 3
    by_cases hlt : i < l
    · have lI : (i : Int) < (l : Int) := by omega
      obtain ⟨dm, f, htd, hvd, f0, f1, hxi⟩ := hgx.out i (by rw [hll.out]; exact hlt)
      have hFi := hFs.out i (by rw [hll.out]; exact hlt)
      rw [hxi] at hFi
      have hcX := Lib.hid (fun wd (hb : Below w.heap.size w wd) j v (hv : (dcells sz dm).toList[j]? = some v) => show wd.cell? ((⟨a1, i * 18, none⟩ : Addr).add j) = some v from by
        have := (hR1'.out wd hb).cell _ rfl i (by rw [hll.out]; exact hlt) j v (by rw [htd]; exact tcl_dia hv)
        rw [Addr.add_mid (o := 0), Nat.zero_add] at this
        exact this)
      have hfX := Lib.hid (fun wd (hb : Below w.heap.size w wd) => show wd.cell? ⟨a1, i * 18 + 17, none⟩ = some (.int .i64 f) from by
        have := (hR1'.out wd hb).cell _ rfl i (by rw [hll.out]; exact hlt) 17 _ (by rw [htd]; exact tcl_fac hvd.2.1)
        rw [Addr.add_mid (o := 0), Nat.zero_add, Addr.add_mid] at this
        exact this)
      have hdl := Lib.hid hvd.2.1
      have hvd' := Lib.hid hvd
      have hgF := Lib.hid (hFg.out i)
      obtain ⟨G, hG⟩ : ∃ G : Nat → List Tm, G = fun j => adds p ((ys.take j).map (mlT p c sz (sz, dm, f))) (F i) := ⟨_, rfl⟩
      have hG0 := Lib.hid (show G 0 = F i by rw [hG]; rfl)
      have hGe := Lib.hid (show G m = F (i + 1) by rw [hG, hFi, ← hmm.out]; simp only [List.take_length])
      have hGl := Lib.hid (fun j => show (G j).length ≤ 20000 from by
        rw [hG]
        have h1 := adds_len p ((ys.take j).map (mlT p c sz (sz, dm, f))) (F i)
        have h2 := hFl.out i
        rw [List.length_map, List.length_take] at h1
        have h3 := hmm.out
        show (adds p ((ys.take j).map (mlT p c sz (sz, dm, f))) (F i)).length ≤ 20000
        omega)
      have hGs := Lib.hid (fun (j : Nat) (hj : j < ys.length) => show G (j + 1) = addT p (mlT p c sz (sz, dm, f) ys[j]).1 (mlT p c sz (sz, dm, f) ys[j]).2 (G j) from by
        rw [hG]
        have := adds_take p (ys.map (mlT p c sz (sz, dm, f))) (F i) j (by rw [List.length_map]; exact hj)
        rw [List.getElem_map, ← List.map_take, ← List.map_take] at this
        exact this)
      have hGg := Lib.hid (fun j => show GoodT p (G j) from by
        rw [hG]
        refine adds_good hpp _ _ (fun u hu => ?_) hgF.out
        obtain ⟨t, ht, rfl⟩ := List.mem_map.1 hu
        obtain ⟨k, hk, e⟩ := List.mem_iff_getElem.1 (List.mem_of_mem_take ht)
        obtain ⟨dm2, f2, _, v2, _, _, e2⟩ := hgy.out k hk
        rw [e] at e2
        subst e2
        exact prod_vd hvd'.out v2)
      clear hG hFi hxi htd hvd
      go_wp2
      go_loopw [7] (fun x wr => ∃ j g cap : Nat, j ≤ m ∧ x = .int .i64 j ∧ (G j).length ≤ cap ∧ Own wr w.heap.size #[.int .i64 p, .int .i64 c, .int .i64 n, .slice (some ⟨a1, 0, none⟩) l cap1] 30 ∧ Own wr (w.heap.size + 1) #[.int .i64 p2, .int .i64 c2, .int .i64 n2, .slice (some ⟨a2, 0, none⟩) m cap2] 30 ∧ Own wr (w.heap.size + 1 + 1) #[.int .i64 0, .int .i64 0, .int .i64 0, .slice none 0 0] 30 ∧ Own wr e5 #[.int .i64 p, .int .i64 c, .int .i64 n, .slice (some ⟨g, 0, none⟩) (G j).length cap] 30 ∧ MnT wr w.heap.size g (G j) ∧ Below w.heap.size w wr) (fun x _ => (m - intOf x).toNat)
      case atStart => exact ⟨0, g, cap, by omega, rfl, by rw [hG0.out]; exact hcap, oX, oY, oR, by rw [hG0.out]; exact oE, by rw [hG0.out]; exact hM, hB⟩
      case round =>
        clear oX oY oR oE hM hB x3 hcap
        obtain ⟨j, g, cap, hj, rfl, hcap, oX, oY, oR, oE, hM, bW⟩ := hrel
        have y3 : wr.cell? ⟨w.heap.size + 1, 3, none⟩ = some (.slice (some ⟨a2, 0, none⟩) m cap2) := oY.cell 3
        by_cases hlt2 : j < m
        · have lJ : (j : Int) < (m : Int) := by omega
          obtain ⟨em, f2, htd2, hvd2, k0, k1, hyj⟩ := hgy.out j (by rw [hmm.out]; exact hlt2)
          have hGj := hGs.out j (by rw [hmm.out]; exact hlt2)
          rw [hyj] at hGj
          have hGj2 := Lib.hid (show G (j + 1) = addT p (sz, prodL sz (mate dm) (mate em)) (f * f2 * pw p c (loopsP sz (mate dm) (mate em)).toNat) (G j) from hGj)
          have hcY := Lib.hid (fun wd (hb : Below w.heap.size w wd) j' v (hv : (dcells sz em).toList[j']? = some v) => show wd.cell? ((⟨a2, j * 18, none⟩ : Addr).add j') = some v from by
            have := (hR2'.out wd hb).cell _ rfl j (by rw [hmm.out]; exact hlt2) j' v (by rw [htd2]; exact tcl_dia hv)
            rw [Addr.add_mid (o := 0), Nat.zero_add] at this
            exact this)
          have hfY := Lib.hid (fun wd (hb : Below w.heap.size w wd) => show wd.cell? ⟨a2, j * 18 + 17, none⟩ = some (.int .i64 f2) from by
            have := (hR2'.out wd hb).cell _ rfl j (by rw [hmm.out]; exact hlt2) 17 _ (by rw [htd2]; exact tcl_fac hvd2.2.1)
            rw [Addr.add_mid (o := 0), Nat.zero_add, Addr.add_mid] at this
            exact this)
          have hel := Lib.hid hvd2.2.1
          have hsz : 1 ≤ sz ∧ sz ≤ 8 := ((isD_iff sz dm hvd'.out.2.1 hvd'.out.2.2).1 hvd'.out.1).1
          have hlb := lp_bd sz (mate dm) (mate em) hsz.1 hsz.2
          have hpv := prod_vd hvd'.out hvd2
          have hpr := Lib.hid (fun w => timesS_any sz dm em hvd'.out.2.1 hvd2.2.1 hvd'.out.2.2 hvd2.2.2 ((isD_iff sz dm hvd'.out.2.1 hvd'.out.2.2).1 hvd'.out.1) ((isD_iff sz em hvd2.2.1 hvd2.2.2).1 hvd2.1) w)
          obtain ⟨P, hP⟩ : ∃ P, prodL sz (mate dm) (mate em) = P := ⟨_, rfl⟩
          rw [hP] at hpr hpv hGj2
          obtain ⟨lp, hlp⟩ : ∃ x, loopsP sz (mate dm) (mate em) = x := ⟨_, rfl⟩
          rw [hlp] at hpr hlb hGj2
          obtain ⟨ln, rfl⟩ : ∃ x : Nat, lp = (x : Int) := ⟨lp.toNat, by omega⟩
          rw [Int.toNat_natCast] at hGj2
          have hpwc := Lib.hid (fun w => (powS_any p c ln w hp hp2 hc0 hc1 (by omega)).mono fun e w' h => (show e = .returned (.int .i64 (pw p c ln)) ∧ w' = w from ⟨h.1, h.2.symm⟩))
          have hpr0 := pw_range p c hp ln
          obtain ⟨v, hv⟩ : ∃ v, pw p c ln = v := ⟨_, rfl⟩
          rw [hv] at hpwc hpr0 hGj2
          have m1 : 0 ≤ f * f2 ∧ f * f2 ≤ 10000 := ⟨Int.mul_nonneg f0 k0, by have h1 := Int.mul_le_mul_of_nonneg_right f1 k0; have h2 := Int.mul_le_mul_of_nonneg_left k1 (show (0 : Int) ≤ 100 by omega); omega⟩
          obtain ⟨u1, hu1⟩ : ∃ u, f * f2 = u := ⟨_, rfl⟩
          rw [hu1] at m1 hGj2
          have wf1 : IntKind.i64.wrap (f * f2) = u1 := by rw [hu1]; exact IntWalk.i64_in _ (by omega)
          have q0 := Int.emod_nonneg u1 (show p ≠ 0 by omega)
          have q1 := Int.emod_lt_of_pos u1 hpp
          have hme : (u1 % p * v) % p = (u1 * v) % p := by rw [Int.mul_emod, Int.emod_emod, ← Int.mul_emod]
          have htm : Int.tmod u1 p = u1 % p := Int.tmod_eq_emod_of_nonneg m1.1
          obtain ⟨u3, hu3⟩ : ∃ u, u1 % p = u := ⟨_, rfl⟩
          rw [hu3] at q0 q1 hme htm
          have hp0 : (p == 0) = false := by simp; omega
          have m2 : 0 ≤ u3 * v ∧ u3 * v ≤ 1000000 := ⟨Int.mul_nonneg q0 (by omega), by have h1 := Int.mul_le_mul_of_nonneg_right (show u3 ≤ 100 by omega) (show 0 ≤ v by omega); have h2 := Int.mul_le_mul_of_nonneg_left (show v ≤ 100 by omega) (show (0 : Int) ≤ 100 by omega); omega⟩
          have hGj3 := hGj2.out
          rw [addT_mod hme.symm] at hGj3
          obtain ⟨u2, hu2⟩ : ∃ u, u3 * v = u := ⟨_, rfl⟩
          rw [hu2] at m2 hGj3
          have wf2 : IntKind.i64.wrap (u3 * v) = u2 := by rw [hu2]; exact IntWalk.i64_in _ (by omega)
          have wf3 : IntKind.i64.wrap u3 = u3 := IntWalk.i64_in _ (by omega)
          have hput := Lib.hid (fun wd hMd hB => putS_any w.heap.size g cap (G j) p u2 sz P wd hMd hB hcap (hGl.out j) (hGg.out j) hp hp2 (by omega) (by omega) hpv)
          rw [← hGj3] at hput
          have hPl := Lib.hid hpv.2.1
          have hp0' : ¬ p = 0 := by omega
          clear hvd2 hGj hGj2 hGj3 htd2 hyj hP hlp hv hpv m1 m2 hu1 hu2 hu3 hlb hpr0 hme q0 q1
          have ltX := oX.lt
          have ltY := oY.lt
          have ltR := oR.lt
          have ltE := oE.lt
          have ltM := hM.lt
          go_upto_region 8 with fail
          clear y3
          obtain ⟨wd, rfl⟩ : ∃ x, x = wr := ⟨_, rfl⟩
          have wdn := trivial
          refine gen_fr (fun jx => ⟨List.toArray [.agg #[.int .i64 p, .int .i64 c, .int .i64 n, .slice (some ⟨a1, 0, none⟩) l cap1], .agg #[.int .i64 p2, .int .i64 c2, .int .i64 n2, .slice (some ⟨a2, 0, none⟩) m cap2], .pointer (some ⟨w.heap.size, 0, none⟩), .pointer (some ⟨w.heap.size + 1, 0, none⟩), .pointer (some ⟨w.heap.size + 1 + 1, 0, none⟩), .pointer (some ⟨e5, 0, none⟩), .int .i64 i, .int .i64 j, jx 8, jx 9, jx 10, .agg #[.int .i64 p, .int .i64 c, .int .i64 n, .slice (some ⟨a1, 0, none⟩) l cap1], .agg #[.int .i64 p, .int .i64 c, .int .i64 n, .slice (some ⟨g1, 0, none⟩) 0 0], .int .i64 i, .pointer (some ⟨w.heap.size, 3, none⟩), .slice (some ⟨a1, 0, none⟩) l cap1, .int .i64 l, .bool true, u18, u19, jx 20, jx 21, jx 22, jx 23, jx 24, jx 25, jx 26, jx 27, jx 28, jx 29, jx 30, jx 31, jx 32, jx 33, jx 34, jx 35, jx 36, jx 37, jx 38, jx 39, jx 40, jx 41, jx 42, jx 43, jx 44, jx 45, jx 46, jx 47, jx 48, jx 49, jx 50, jx 51, jx 52, jx 53, jx 54, jx 55, jx 56, jx 57, jx 58, jx 59, jx 60, jx 61, jx 62, jx 63, jx 64, jx 65, jx 66, jx 67, jx 68, jx 69, jx 70, jx 71, jx 72, jx 73, undef], []⟩) ?_ (by rfl)
          intro jx
          refine wp_region_facts (by kernel_rfl) (by kernel_rfl) (fun a w' => ∃ x28 x29 x30 x31 x32 x33 x34 x35 x36 x37 x38 x39 x40 x27 x41 x42 x8 x9 : Value, a = ⟨List.toArray [.agg #[.int .i64 p, .int .i64 c, .int .i64 n, .slice (some ⟨a1, 0, none⟩) l cap1], .agg #[.int .i64 p2, .int .i64 c2, .int .i64 n2, .slice (some ⟨a2, 0, none⟩) m cap2], .pointer (some ⟨w.heap.size, 0, none⟩), .pointer (some ⟨w.heap.size + 1, 0, none⟩), .pointer (some ⟨w.heap.size + 1 + 1, 0, none⟩), .pointer (some ⟨e5, 0, none⟩), .int .i64 i, .int .i64 j, x8, x9, jx 10, .agg #[.int .i64 p, .int .i64 c, .int .i64 n, .slice (some ⟨a1, 0, none⟩) l cap1], .agg #[.int .i64 p, .int .i64 c, .int .i64 n, .slice (some ⟨g1, 0, none⟩) 0 0], .int .i64 i, .pointer (some ⟨w.heap.size, 3, none⟩), .slice (some ⟨a1, 0, none⟩) l cap1, .int .i64 l, .bool true, u18, u19, jx 20, jx 21, jx 22, jx 23, jx 24, jx 25, jx 26, x27, x28, x29, x30, x31, x32, x33, x34, x35, x36, x37, x38, x39, x40, x41, x42, jx 43, jx 44, jx 45, jx 46, jx 47, jx 48, jx 49, jx 50, jx 51, jx 52, jx 53, jx 54, jx 55, jx 56, jx 57, jx 58, jx 59, jx 60, jx 61, jx 62, jx 63, jx 64, jx 65, jx 66, jx 67, jx 68, jx 69, jx 70, jx 71, jx 72, jx 73, undef], []⟩ ∧ Below wd.heap.size wd w') (fun jF a w' => match jF with | 0 => sl a 28 = .pointer (some ⟨w.heap.size, 3, none⟩) | 1 => sl a 29 = .slice (some ⟨a1, 0, none⟩) l cap1 | 2 => sl a 30 = .int .i64 i | 3 => sl a 31 = .pointer (some ⟨a1, i * 18, none⟩) | 4 => sl a 32 = .pointer (some ⟨a1, i * 18, none⟩) | 5 => sl a 33 = .agg (dcells sz dm) | 6 => sl a 34 = .pointer (some ⟨w.heap.size + 1, 3, none⟩) | 7 => sl a 35 = .slice (some ⟨a2, 0, none⟩) m cap2 | 8 => sl a 36 = .int .i64 j | 9 => sl a 37 = .pointer (some ⟨a2, j * 18, none⟩) | 10 => sl a 38 = .pointer (some ⟨a2, j * 18, none⟩) | 11 => sl a 39 = .agg (dcells sz em) | 12 => sl a 40 = .tuple #[.agg (dcells sz P), .int .i64 ln] | 13 => sl a 27 = .tuple #[.agg (dcells sz P), .int .i64 ln] | 14 => sl a 41 = .agg (dcells sz P) | 15 => sl a 42 = .int .i64 ln | 16 => ∃ g : Nat, sl a 8 = .pointer (some ⟨g, 0, none⟩) ∧ wd.heap.size ≤ g ∧ ∃ cs : Array Value, cs.size = 17 ∧ Own w' g cs 53 | 17 => ∃ g : Nat, sl a 8 = .pointer (some ⟨g, 0, none⟩) ∧ wd.heap.size ≤ g ∧ Own w' g (dcells sz P) 53 | 18 => sl a 9 = .int .i64 ln | _ => True) ⟨_, _, _, _, _, _, _, _, _, _, _, _, _, _, _, _, _, _, rfl, (Below.refl _ _).drew⟩ ?_ ?_
          · refine (AllOps.cons ?_ (AllOps.cons ?_ (AllOps.cons ?_ (AllOps.cons ?_ (AllOps.cons ?_ (AllOps.cons ?_ (AllOps.cons ?_ (AllOps.cons ?_ (AllOps.cons ?_ (AllOps.cons ?_ (AllOps.cons ?_ (AllOps.cons ?_ (AllOps.cons ?_ (AllOps.cons ?_ (AllOps.cons ?_ (AllOps.cons ?_ (AllOps.cons ?_ (AllOps.cons ?_ (AllOps.cons ?_ AllOps.nil)))))))))))))))))))
            · rintro a w0 ⟨x28, x29, x30, x31, x32, x33, x34, x35, x36, x37, x38, x39, x40, x27, x41, x42, x8, x9, rfl, hB⟩ hd K hK
              go_wp2
              refine hK _ _ ⟨_, _, _, _, _, _, _, _, _, _, _, _, _, _, _, _, _, _, rfl, hB⟩ (rfl) ?_
              rintro (_|_|_|_|_|_|_|_|_|_|_|_|_|_|_|_|_|_|_|_) hj hn h <;> first | exact h | exact absurd rfl hj | exact waits_no hn (by kernel_rfl)
            · rintro a w0 ⟨x28, x29, x30, x31, x32, x33, x34, x35, x36, x37, x38, x39, x40, x27, x41, x42, x8, x9, rfl, hB⟩ hd K hK
              have d0 : x28 = _ := hd 0 (by kernel_rfl)
              have k3 : w0.cell? ⟨w.heap.size, 3, none⟩ = some (.slice (some ⟨a1, 0, none⟩) l cap1) := (oX.below hB ltX).cell 3
              subst d0
              go_wp2
              refine hK _ _ ⟨_, _, _, _, _, _, _, _, _, _, _, _, _, _, _, _, _, _, rfl, hB⟩ (rfl) ?_
              rintro (_|_|_|_|_|_|_|_|_|_|_|_|_|_|_|_|_|_|_|_) hj hn h <;> first | exact h | exact absurd rfl hj | exact waits_no hn (by kernel_rfl)
            · rintro a w0 ⟨x28, x29, x30, x31, x32, x33, x34, x35, x36, x37, x38, x39, x40, x27, x41, x42, x8, x9, rfl, hB⟩ hd K hK
              go_wp2
              refine hK _ _ ⟨_, _, _, _, _, _, _, _, _, _, _, _, _, _, _, _, _, _, rfl, hB⟩ (rfl) ?_
              rintro (_|_|_|_|_|_|_|_|_|_|_|_|_|_|_|_|_|_|_|_) hj hn h <;> first | exact h | exact absurd rfl hj | exact waits_no hn (by kernel_rfl)
            · rintro a w0 ⟨x28, x29, x30, x31, x32, x33, x34, x35, x36, x37, x38, x39, x40, x27, x41, x42, x8, x9, rfl, hB⟩ hd K hK
              have d0 : x29 = _ := hd 1 (by kernel_rfl)
              have d1 : x30 = _ := hd 2 (by kernel_rfl)
              subst d0 d1
              go_wp2
              refine hK _ _ ⟨_, _, _, _, _, _, _, _, _, _, _, _, _, _, _, _, _, _, rfl, hB⟩ (rfl) ?_
              rintro (_|_|_|_|_|_|_|_|_|_|_|_|_|_|_|_|_|_|_|_) hj hn h <;> first | exact h | exact absurd rfl hj | exact waits_no hn (by kernel_rfl)
            · rintro a w0 ⟨x28, x29, x30, x31, x32, x33, x34, x35, x36, x37, x38, x39, x40, x27, x41, x42, x8, x9, rfl, hB⟩ hd K hK
              have d0 : x31 = _ := hd 3 (by kernel_rfl)
              subst d0
              go_wp2
              refine hK _ _ ⟨_, _, _, _, _, _, _, _, _, _, _, _, _, _, _, _, _, _, rfl, hB⟩ (rfl) ?_
              rintro (_|_|_|_|_|_|_|_|_|_|_|_|_|_|_|_|_|_|_|_) hj hn h <;> first | exact h | exact absurd rfl hj | exact waits_no hn (by kernel_rfl)
            · rintro a w0 ⟨x28, x29, x30, x31, x32, x33, x34, x35, x36, x37, x38, x39, x40, x27, x41, x42, x8, x9, rfl, hB⟩ hd K hK
              have d0 : x32 = _ := hd 4 (by kernel_rfl)
              subst d0
              go_wp2_with (first | (refine wpList_load_at rfl 53 (.tmp 32) rfl ⟨a1, i * 18, none⟩ rfl (dcells sz dm).toList _ (hcX.out w0 (bW.trans (hB.mono bW.size))) Try.underlying53 rfl (by rw [dl17 hdl.out]; kernel_rfl) ?_))
              refine hK _ _ ⟨_, _, _, _, _, _, _, _, _, _, _, _, _, _, _, _, _, _, rfl, hB⟩ (rfl) ?_
              rintro (_|_|_|_|_|_|_|_|_|_|_|_|_|_|_|_|_|_|_|_) hj hn h <;> first | exact h | exact absurd rfl hj | exact waits_no hn (by kernel_rfl)
            · rintro a w0 ⟨x28, x29, x30, x31, x32, x33, x34, x35, x36, x37, x38, x39, x40, x27, x41, x42, x8, x9, rfl, hB⟩ hd K hK
              go_wp2
              refine hK _ _ ⟨_, _, _, _, _, _, _, _, _, _, _, _, _, _, _, _, _, _, rfl, hB⟩ (rfl) ?_
              rintro (_|_|_|_|_|_|_|_|_|_|_|_|_|_|_|_|_|_|_|_) hj hn h <;> first | exact h | exact absurd rfl hj | exact waits_no hn (by kernel_rfl)
            · rintro a w0 ⟨x28, x29, x30, x31, x32, x33, x34, x35, x36, x37, x38, x39, x40, x27, x41, x42, x8, x9, rfl, hB⟩ hd K hK
              have d0 : x34 = _ := hd 6 (by kernel_rfl)
              have k3 : w0.cell? ⟨w.heap.size + 1, 3, none⟩ = some (.slice (some ⟨a2, 0, none⟩) m cap2) := (oY.below hB ltY).cell 3
              subst d0
              go_wp2
              refine hK _ _ ⟨_, _, _, _, _, _, _, _, _, _, _, _, _, _, _, _, _, _, rfl, hB⟩ (rfl) ?_
              rintro (_|_|_|_|_|_|_|_|_|_|_|_|_|_|_|_|_|_|_|_) hj hn h <;> first | exact h | exact absurd rfl hj | exact waits_no hn (by kernel_rfl)
            · rintro a w0 ⟨x28, x29, x30, x31, x32, x33, x34, x35, x36, x37, x38, x39, x40, x27, x41, x42, x8, x9, rfl, hB⟩ hd K hK
              go_wp2
              refine hK _ _ ⟨_, _, _, _, _, _, _, _, _, _, _, _, _, _, _, _, _, _, rfl, hB⟩ (rfl) ?_
              rintro (_|_|_|_|_|_|_|_|_|_|_|_|_|_|_|_|_|_|_|_) hj hn h <;> first | exact h | exact absurd rfl hj | exact waits_no hn (by kernel_rfl)
            · rintro a w0 ⟨x28, x29, x30, x31, x32, x33, x34, x35, x36, x37, x38, x39, x40, x27, x41, x42, x8, x9, rfl, hB⟩ hd K hK
              have d0 : x35 = _ := hd 7 (by kernel_rfl)
              have d1 : x36 = _ := hd 8 (by kernel_rfl)
              subst d0 d1
              go_wp2
              refine hK _ _ ⟨_, _, _, _, _, _, _, _, _, _, _, _, _, _, _, _, _, _, rfl, hB⟩ (rfl) ?_
              rintro (_|_|_|_|_|_|_|_|_|_|_|_|_|_|_|_|_|_|_|_) hj hn h <;> first | exact h | exact absurd rfl hj | exact waits_no hn (by kernel_rfl)
            · rintro a w0 ⟨x28, x29, x30, x31, x32, x33, x34, x35, x36, x37, x38, x39, x40, x27, x41, x42, x8, x9, rfl, hB⟩ hd K hK
              have d0 : x37 = _ := hd 9 (by kernel_rfl)
              subst d0
              go_wp2
              refine hK _ _ ⟨_, _, _, _, _, _, _, _, _, _, _, _, _, _, _, _, _, _, rfl, hB⟩ (rfl) ?_
              rintro (_|_|_|_|_|_|_|_|_|_|_|_|_|_|_|_|_|_|_|_) hj hn h <;> first | exact h | exact absurd rfl hj | exact waits_no hn (by kernel_rfl)
            · rintro a w0 ⟨x28, x29, x30, x31, x32, x33, x34, x35, x36, x37, x38, x39, x40, x27, x41, x42, x8, x9, rfl, hB⟩ hd K hK
              have d0 : x38 = _ := hd 10 (by kernel_rfl)
              subst d0
              go_wp2_with (first | (refine wpList_load_at rfl 53 (.tmp 38) rfl ⟨a2, j * 18, none⟩ rfl (dcells sz em).toList _ (hcY.out w0 (bW.trans (hB.mono bW.size))) Try.underlying53 rfl (by rw [dl17 hel.out]; kernel_rfl) ?_))
              refine hK _ _ ⟨_, _, _, _, _, _, _, _, _, _, _, _, _, _, _, _, _, _, rfl, hB⟩ (rfl) ?_
              rintro (_|_|_|_|_|_|_|_|_|_|_|_|_|_|_|_|_|_|_|_) hj hn h <;> first | exact h | exact absurd rfl hj | exact waits_no hn (by kernel_rfl)
            · rintro a w0 ⟨x28, x29, x30, x31, x32, x33, x34, x35, x36, x37, x38, x39, x40, x27, x41, x42, x8, x9, rfl, hB⟩ hd K hK
              have d0 : x33 = _ := hd 5 (by kernel_rfl)
              have d1 : x39 = _ := hd 11 (by kernel_rfl)
              subst d0 d1
              go_wp2_with (first | (go_at_call 70; ((with_reducible refine (hpr.out w0).mono ?_); rintro e w2 ⟨rfl, hB2⟩)))
              refine hK _ _ ⟨_, _, _, _, _, _, _, _, _, _, _, _, _, _, _, _, _, _, rfl, hB.trans (hB2.mono hB.size)⟩ (rfl) ?_
              rintro (_|_|_|_|_|_|_|_|_|_|_|_|_|_|_|_|_|_|_|_) hj hn h <;> first | exact h | exact absurd rfl hj | (obtain ⟨g, e, hg, cs, hcs, hO⟩ := h; exact ⟨g, e, hg, cs, hcs, hO.below hB2 hO.lt⟩) | exact waits_no hn (by kernel_rfl)
            · rintro a w0 ⟨x28, x29, x30, x31, x32, x33, x34, x35, x36, x37, x38, x39, x40, x27, x41, x42, x8, x9, rfl, hB⟩ hd K hK
              have d0 : x40 = _ := hd 12 (by kernel_rfl)
              subst d0
              go_wp2
              refine hK _ _ ⟨_, _, _, _, _, _, _, _, _, _, _, _, _, _, _, _, _, _, rfl, hB⟩ (rfl) ?_
              rintro (_|_|_|_|_|_|_|_|_|_|_|_|_|_|_|_|_|_|_|_) hj hn h <;> first | exact h | exact absurd rfl hj | exact waits_no hn (by kernel_rfl)
            · rintro a w0 ⟨x28, x29, x30, x31, x32, x33, x34, x35, x36, x37, x38, x39, x40, x27, x41, x42, x8, x9, rfl, hB⟩ hd K hK
              have d0 : x27 = _ := hd 13 (by kernel_rfl)
              subst d0
              go_wp2
              refine hK _ _ ⟨_, _, _, _, _, _, _, _, _, _, _, _, _, _, _, _, _, _, rfl, hB⟩ (rfl) ?_
              rintro (_|_|_|_|_|_|_|_|_|_|_|_|_|_|_|_|_|_|_|_) hj hn h <;> first | exact h | exact absurd rfl hj | exact waits_no hn (by kernel_rfl)
            · rintro a w0 ⟨x28, x29, x30, x31, x32, x33, x34, x35, x36, x37, x38, x39, x40, x27, x41, x42, x8, x9, rfl, hB⟩ hd K hK
              have d0 : x27 = _ := hd 13 (by kernel_rfl)
              subst d0
              go_wp2
              refine hK _ _ ⟨_, _, _, _, _, _, _, _, _, _, _, _, _, _, _, _, _, _, rfl, hB⟩ (rfl) ?_
              rintro (_|_|_|_|_|_|_|_|_|_|_|_|_|_|_|_|_|_|_|_) hj hn h <;> first | exact h | exact absurd rfl hj | exact waits_no hn (by kernel_rfl)
            · rintro a w0 ⟨x28, x29, x30, x31, x32, x33, x34, x35, x36, x37, x38, x39, x40, x27, x41, x42, x8, x9, rfl, hB⟩ hd K hK
              go_wp2
              refine hK _ _ ⟨_, _, _, _, _, _, _, _, _, _, _, _, _, _, _, _, _, _, rfl, hB.alloc hB.size _⟩ (⟨_, rfl, hB.size, _, rfl, Own.new _ _ _⟩) ?_
              rintro (_|_|_|_|_|_|_|_|_|_|_|_|_|_|_|_|_|_|_|_) hj hn h <;> first | exact h | exact absurd rfl hj | exact waits_no hn (by kernel_rfl)
            · rintro a w0 ⟨x28, x29, x30, x31, x32, x33, x34, x35, x36, x37, x38, x39, x40, x27, x41, x42, x8, x9, rfl, hB⟩ hd K hK
              obtain ⟨g, e, hg, cs, hcs, hO⟩ := hd 16 (by kernel_rfl)
              have e : x8 = _ := e
              have d0 : x41 = _ := hd 14 (by kernel_rfl)
              subst e d0
              go_wp2_with (first | (refine wpList_store_own rfl 53 _ _ rfl _ _ rfl rfl 53 _ (hO) (row26 (d17 _ _ (hPl.out))) (by rw [hcs, d17 _ _ hPl.out]) (dcells_one _ _) ?_; intro w2 hO2 hN2))
              refine hK _ _ ⟨_, _, _, _, _, _, _, _, _, _, _, _, _, _, _, _, _, _, rfl, hB.trans (hN2.below.mono hg)⟩ (⟨g, rfl, hg, hO2⟩) ?_
              rintro (_|_|_|_|_|_|_|_|_|_|_|_|_|_|_|_|_|_|_|_) hj hn h <;> first | exact h | exact absurd rfl hj | exact ⟨g, rfl, hg, _, d17 _ _ hPl.out, hO2⟩ | exact waits_no hn (by kernel_rfl)
            · rintro a w0 ⟨x28, x29, x30, x31, x32, x33, x34, x35, x36, x37, x38, x39, x40, x27, x41, x42, x8, x9, rfl, hB⟩ hd K hK
              have d0 : x42 = _ := hd 15 (by kernel_rfl)
              subst d0
              go_wp2
              refine hK _ _ ⟨_, _, _, _, _, _, _, _, _, _, _, _, _, _, _, _, _, _, rfl, hB⟩ (rfl) ?_
              rintro (_|_|_|_|_|_|_|_|_|_|_|_|_|_|_|_|_|_|_|_) hj hn h <;> first | exact h | exact absurd rfl hj | exact waits_no hn (by kernel_rfl)
          · rintro a w1 ⟨x28, x29, x30, x31, x32, x33, x34, x35, x36, x37, x38, x39, x40, x27, x41, x42, x8, x9, rfl, hB⟩ hF
            have e9 : x9 = _ := hF 18 (by decide)
            obtain ⟨g8, e8, hg8, oD⟩ := hF 17 (by decide)
            have e8 : x8 = _ := e8
            subst e9 e8
            clear hF
            have oX8 := oX.below hB ltX
            have oY8 := oY.below hB ltY
            have oR8 := oR.below hB ltR
            have oE8 := oE.below hB ltE
            have hM8 := hM.below hB ltM
            have b8 := bW.trans (hB.mono bW.size)
            clear hB
            obtain ⟨wv, rfl⟩ : ∃ x, x = w1 := ⟨_, rfl⟩
            clear oX oY oR oE hM bW ltX ltY ltR ltE ltM wdn
            go_upto_region 9 with fail
            refine gen_fr (fun jx => ⟨List.toArray [.agg #[.int .i64 p, .int .i64 c, .int .i64 n, .slice (some ⟨a1, 0, none⟩) l cap1], .agg #[.int .i64 p2, .int .i64 c2, .int .i64 n2, .slice (some ⟨a2, 0, none⟩) m cap2], .pointer (some ⟨w.heap.size, 0, none⟩), .pointer (some ⟨w.heap.size + 1, 0, none⟩), .pointer (some ⟨w.heap.size + 1 + 1, 0, none⟩), .pointer (some ⟨e5, 0, none⟩), .int .i64 i, .int .i64 j, .pointer (some ⟨g8, 0, none⟩), .int .i64 ln, jx 10, .agg #[.int .i64 p, .int .i64 c, .int .i64 n, .slice (some ⟨a1, 0, none⟩) l cap1], .agg #[.int .i64 p, .int .i64 c, .int .i64 n, .slice (some ⟨g1, 0, none⟩) 0 0], .int .i64 i, .pointer (some ⟨w.heap.size, 3, none⟩), .slice (some ⟨a1, 0, none⟩) l cap1, .int .i64 l, .bool true, u18, u19, jx 20, jx 21, jx 22, jx 23, jx 24, jx 25, jx 26, jx 27, jx 28, jx 29, jx 30, jx 31, jx 32, jx 33, jx 34, jx 35, jx 36, jx 37, jx 38, jx 39, jx 40, jx 41, jx 42, jx 43, jx 44, jx 45, jx 46, jx 47, jx 48, jx 49, jx 50, jx 51, jx 52, jx 53, jx 54, jx 55, jx 56, jx 57, jx 58, jx 59, jx 60, jx 61, jx 62, jx 63, jx 64, jx 65, jx 66, jx 67, jx 68, jx 69, jx 70, jx 71, jx 72, jx 73, undef], []⟩) ?_ (by rfl)
            intro jx
            refine wp_region_still_tail 23 (by kernel_rfl) (by kernel_rfl) ?_
            change wpStill _ _ wv.drew (fun a' => wpList _ _ _ _ a' wv.drew) _ _
            have oXd : Own wv.drew w.heap.size #[.int .i64 p, .int .i64 c, .int .i64 n, .slice (some ⟨a1, 0, none⟩) l cap1] 30 := oX8
            have oYd : Own wv.drew (w.heap.size + 1) #[.int .i64 p2, .int .i64 c2, .int .i64 n2, .slice (some ⟨a2, 0, none⟩) m cap2] 30 := oY8
            have oRd : Own wv.drew (w.heap.size + 1 + 1) #[.int .i64 0, .int .i64 0, .int .i64 0, .slice none 0 0] 30 := oR8
            have oEd : Own wv.drew e5 #[.int .i64 p, .int .i64 c, .int .i64 n, .slice (some ⟨g, 0, none⟩) (G j).length cap] 30 := oE8
            have oDd : Own wv.drew g8 (dcells sz P) 53 := oD
            have hMd : MnT wv.drew w.heap.size g (G j) := hM8
            have bd : Below w.heap.size w wv.drew := b8.drew
            have x0 : wv.drew.cell? ⟨w.heap.size, 0, none⟩ = some (.int .i64 p) := oXd.cell 0
            have x1 : wv.drew.cell? ⟨w.heap.size, 1, none⟩ = some (.int .i64 c) := oXd.cell 1
            have x3 : wv.drew.cell? ⟨w.heap.size, 3, none⟩ = some (.slice (some ⟨a1, 0, none⟩) l cap1) := oXd.cell 3
            have y3 : wv.drew.cell? ⟨w.heap.size + 1, 3, none⟩ = some (.slice (some ⟨a2, 0, none⟩) m cap2) := oYd.cell 3
            have s17 := hfX.out _ bd
            have t17 := hfY.out _ bd
            clear oX8 oY8 oR8 oE8 oD hM8 b8
            generalize wv.drew = wd at *
            simp only [List.take_succ_cons, List.take_zero, List.drop_succ_cons, List.drop_zero]
            still_step
            still_step
            still_step
            still_step
            still_step
            still_step
            still_step
            still_step
            still_step
            still_step
            still_step
            still_step
            still_step
            still_step
            still_step
            still_step
            still_step
            still_step
            still_step
            still_step
            still_step
            still_call (hpwc.out wd)
            still_step
            refine wpStill_nil ?_
            have e3 : wd.cell? ⟨e5, 3, none⟩ = some (.slice (some ⟨g, 0, none⟩) (G j).length cap) := oEd.cell 3
            go_wp2_with (first
              | (go_at_call 71; ((with_reducible refine (hput.out wd hMd bd.size).mono ?_); rintro e w5 ⟨⟨g5, cap5, rfl, hc5, hM5⟩, hB5⟩; have oE5 := oEd.below hB5 oEd.lt; have f5 := oE5.free 3; have e5c : w5.cell? ⟨e5, 3, none⟩ = some (.slice (some ⟨g, 0, none⟩) (G j).length cap) := oE5.cell 3))
              | (refine wpList_load_row rfl 53 _ rfl _ rfl 53 _ (0, 0) _ (oDd) Try.underlying53 rfl (row26 (d17 _ _ (hPl.out))) ?_))
            have oX5 := oXd.below hB5 oXd.lt
            have oY5 := oYd.below hB5 oYd.lt
            have oR5 := oRd.below hB5 oRd.lt
            have b5 := bd.trans (hB5.mono bd.size)
            have hs6 : ∀ v j, j ≠ e5 → (w5.setCell ⟨e5, 3, none⟩ v).heap[j]? = w5.heap[j]? := fun v j hj => Below.heap_setCell _ _ _ _ hj
            have oE6 := oE5.set 3 (.slice (some ⟨g5, 0, none⟩) (G (j + 1)).length cap5)
            have b6 := b5.setCell (p := ⟨e5, 3, none⟩) (by show w.heap.size ≤ e5; omega) (.slice (some ⟨g5, 0, none⟩) (G (j + 1)).length cap5)
            have hM6 : MnT (w5.setCell ⟨e5, 3, none⟩ (.slice (some ⟨g5, 0, none⟩) (G (j + 1)).length cap5)) w.heap.size g5 (G (j + 1)) := by
              obtain ⟨h0, sp, ho⟩ := hM5
              exact ⟨h0, sp, ho.only (Only.set e5 3 w5 _) (ho.neTz oE5 (by decide))⟩
            
            go_roundw
            case rel => exact ⟨j + 1, g5, cap5, by omega, by go_num, hc5, (hs6 _ _ (by omega)).trans oX5, (hs6 _ _ (by omega)).trans oY5, (hs6 _ _ (by omega)).trans oR5, oE6, hM6, b6⟩
            case measure => simp [intOf]; omega
        · obtain rfl : j = m := by omega
          have lJ : ¬ (j : Int) < (j : Int) := by omega
          go_wp2
          go_roundw
          case rel => exact ⟨i + 1, g, cap, by omega, by go_num, by rw [← hGe.out]; exact hcap, oX, oY, oR, by rw [← hGe.out]; exact oE, by rw [← hGe.out]; exact hM, bW⟩
          case measure => simp [intOf]; omega
    · obtain rfl : i = l := by omega
      have lI : ¬ (i : Int) < (i : Int) := by omega
      go_wp2_with (first
        | (refine wpList_load_row rfl 30 _ rfl _ rfl 30 _ (0, 0) _ oE Try.underlying30 rfl (by kernel_rfl) ?_)
        | (refine wpList_store_own rfl 30 _ _ rfl _ _ rfl rfl 30 _ oR (by kernel_rfl) rfl (by simp [Value.oneCell']) ?_; intro w7 oR7 hN7))
      rw [hFe.out] at hcap hM oR7 ⊢
      have hM7 : MnT w7 w.heap.size g R := by
        obtain ⟨h0, sp, ho⟩ := hM
        exact ⟨h0, sp, ho.only hN7 (ho.neTz oR (by decide))⟩
      refine bodyPost_ret (v := .agg #[.int .i64 p, .int .i64 c, .int .i64 n, .slice (some ⟨g, 0, none⟩) (R).length cap]) (results_cell_row rfl _ _ _ _ _ (0, 0) _ rfl oR7 Try.underlying30 rfl (by kernel_rfl)) rfl ⟨⟨g, cap, rfl, hcap, hM7⟩, hB.trans (hN7.below.mono (by omega))⟩
end Go.Proofs.Ytbibmncepjmgcaa
