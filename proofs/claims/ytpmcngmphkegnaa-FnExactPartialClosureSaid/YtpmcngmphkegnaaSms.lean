/- k times an element is added to another one: the model's l02Sum. -/
import Derived.Test.YtpmcngmphkegnaaKh
import Derived.Test.YtpmcngmphkegnaaKi
namespace Go.Proofs.Ytpmcngmphkegnaa
open Go.RowKit Go.Lib
set_option linter.unusedVariables false
set_option linter.unusedSimpArgs false
theorem RdT.flat {w : World} {g : Nat} {ts : List Tm} (h : RdT w (some ⟨g, 0, none⟩) ts) (h16 : L16 ts) : ∀ i u, (tsl ts)[i]? = some u → w.cell? ((⟨g, 0, none⟩ : Addr).add i) = some u := by
  intro i u hu
  have hl := tsl_len ts h16
  have hi : i < 18 * ts.length := by rw [← hl]; exact (List.getElem?_eq_some_iff.1 hu).1
  have hk : i / 18 < ts.length := by omega
  have hg := tsl_get ts h16 (i / 18) hk (i % 18) (Nat.mod_lt _ (by omega))
  rw [Nat.div_add_mod, hu] at hg
  have := h.cell _ rfl (i / 18) hk (i % 18) u (by rw [List.getD_eq_getElem?_getD, List.getElem?_eq_getElem hk]; exact hg.symm)
  rw [Addr.add_mid, Addr.add_mid] at this
  rw [Addr.add_mid]
  rw [show 0 + i = 0 + i / 18 * 18 + i % 18 by omega]
  exact this
theorem elT_tOk {n p : Int} {ts : List Tm} : ∀ {m : Nat}, elT n p ts m = true → ∀ k, k < m → tOk n p (ts.getD k zT) = true ∧ (k = 0 ∨ ltT (ts.getD (k - 1) zT) (ts.getD k zT) = true)
  | 0, _, k, hk => by omega
  | m + 1, h, k, hk => by
    rw [elT, Bool.and_eq_true, Bool.and_eq_true, Bool.or_eq_true, decide_eq_true_iff] at h
    by_cases e : k = m
    · subst e; exact ⟨h.2.1, h.2.2⟩
    · exact elT_tOk h.1 k (by omega)
theorem elB_good {p c n : Int} {ts : List Tm} (h : elB p c n ts = true) (hts : ∀ t ∈ ts, t.2.1.length = 16 ∧ Bytes t.2.1) :
    primeB p = true ∧ (0 ≤ c ∧ c < p) ∧ (1 ≤ n ∧ n ≤ 8) ∧ ts.length ≤ 140 ∧ GoodT p ts ∧ (∀ t ∈ ts, t.1 = n) ∧ 2 ≤ p ∧ p ≤ 97 ∧ ∀ t ∈ ts, VD (kTm t) ∧ 0 ≤ t.2.2 ∧ t.2.2 ≤ 100 := by
  unfold elB at h
  rw [Bool.and_eq_true, Bool.and_eq_true, Bool.and_eq_true, Bool.and_eq_true, decide_eq_true_iff, decide_eq_true_iff, decide_eq_true_iff] at h
  obtain ⟨⟨hp, hc⟩, hn, hl, he⟩ := h
  have hp2 : 2 ≤ p ∧ p ≤ 97 := by unfold primeB at hp; simp at hp; exact ⟨hp.1, hp.2.1⟩
  have hk := elT_tOk he
  have ho : ∀ t ∈ ts, t.1 = n ∧ VD (kTm t) ∧ 1 ≤ t.2.2 ∧ t.2.2 < p := by
    intro t ht
    obtain ⟨i, hi, e⟩ := List.mem_iff_getElem.1 ht
    have h1 := (hk i hi).1
    rw [List.getD_eq_getElem?_getD, List.getElem?_eq_getElem hi, e] at h1
    have h1' : tOk n p t = true := h1
    unfold tOk at h1'
    rw [Bool.and_eq_true, Bool.and_eq_true, decide_eq_true_iff, decide_eq_true_iff] at h1'
    exact ⟨h1'.1.1, ⟨h1'.1.2, (hts t ht).1, (hts t ht).2⟩, h1'.2.1, h1'.2.2⟩
  have gd : ∀ i (hi : i < ts.length), ts.getD i zT = ts[i] := fun i hi => by rw [List.getD_eq_getElem?_getD, List.getElem?_eq_getElem hi]; rfl
  have hnext : ∀ i (h1 : i + 1 < ts.length), ltD (kTm ts[i]) (kTm ts[i + 1]) = true := by
    intro i h1
    have h2 := (hk (i + 1) h1).2
    rcases h2 with h2 | h2
    · omega
    · rw [show i + 1 - 1 = i by omega, gd i (by omega), gd (i + 1) h1] at h2
      exact h2
  have hsrt : ∀ (d i : Nat) (h1 : i + (d + 1) < ts.length), ltD (kTm (ts[i]'(by omega))) (kTm ts[i + (d + 1)]) = true := by
    intro d
    induction d with
    | zero => intro i h1; exact hnext i h1
    | succ d ih =>
      intro i h1
      have a := ih i (by omega)
      have b := hnext (i + (d + 1)) (by omega)
      exact linD.tr _ _ _ (ho _ (List.getElem_mem _)).2.1 (ho _ (List.getElem_mem _)).2.1 (ho _ (List.getElem_mem _)).2.1 a b
  refine ⟨hp, hc, hn, hl, ⟨fun t ht => (ho t ht).2.1, fun t ht => ⟨(ho t ht).2.2.1, (ho t ht).2.2.2⟩, ?_⟩, fun t ht => (ho t ht).1, hp2.1, hp2.2, fun t ht => ⟨(ho t ht).2.1, by have := (ho t ht).2.2.1; omega, by have := (ho t ht).2.2.2; omega⟩⟩
  rw [List.pairwise_iff_getElem]
  intro i j hi hj hij
  obtain ⟨d, rfl⟩ : ∃ d, j = i + (d + 1) := ⟨j - i - 1, by omega⟩
  exact hsrt d i hj
theorem addT_len (p : Int) (d : Dg) (k : Int) (ts : List Tm) : (addT p d k ts).length ≤ ts.length + 1 := by
  show (addL ltD trmT p d k ts).length ≤ _
  unfold addL
  split
  · omega
  · have := put_len (lt := ltD) (R := trmT) (p := p) (d := d) (k := k % p) ts; omega
theorem smN_len (p k : Int) (ts : List Tm) : ∀ L : List Tm, (smN p k ts L).length ≤ L.length + ts.length := by
  induction ts with
  | nil => intro L; simp [smN]
  | cons t ts ih =>
    intro L
    have h1 := ih (addT p (kTm t) (k * t.2.2) L)
    have h2 := addT_len p (kTm t) (k * t.2.2) L
    show (smN p k ts (addT p (kTm t) (k * t.2.2) L)).length ≤ _
    simp
    omega
set_option maxRecDepth 100000 in
set_option maxHeartbeats 8000000 in
theorem sumS_any (p c n k p2 c2 n2 : Int) (a1 a2 cap1 cap2 : Nat) (xs ts : List Tm) (w : World) (hR1 : RdT w (some ⟨a1, 0, none⟩) xs) (hR2 : RdT w (some ⟨a2, 0, none⟩) ts) (hG : GoodT p xs) (hts : ∀ t ∈ ts, VD (kTm t) ∧ 0 ≤ t.2.2 ∧ t.2.2 ≤ 100) (hp : 2 ≤ p) (hp2 : p ≤ 97) (hk0 : -1000000 ≤ k) (hk1 : k ≤ 1000000) (hx : xs.length ≤ 1000) (hl0 : ts.length ≤ 1000) :
    Calls Try.prog 47 #[.agg (ecl p c n (.slice (some ⟨a1, 0, none⟩) xs.length cap1)), .agg (ecl p2 c2 n2 (.slice (some ⟨a2, 0, none⟩) ts.length cap2)), .int .i64 k] w fun e w' => (∃ g cap, e = .returned (.agg (ecl p c n (.slice (some ⟨g, 0, none⟩) (smN p k ts xs).length cap))) ∧ (smN p k ts xs).length ≤ cap ∧ MnT w' w.heap.size g (smN p k ts xs)) ∧ Below w.heap.size w w' := by
  have hgt := Lib.hid (fun (i : Nat) (hi : i < ts.length) => show ∃ dn dm f, ts.getD i zT = (dn, dm, f) ∧ VD (dn, dm) ∧ 0 ≤ f ∧ f ≤ 100 ∧ smN p k (ts.take (i + 1)) xs = addT p (dn, dm) (k * f) (smN p k (ts.take i) xs) from by
    obtain ⟨⟨dn, dm, f⟩, h⟩ : ∃ t, ts[i] = t := ⟨_, rfl⟩
    have hm : (dn, dm, f) ∈ ts := by rw [← h]; exact List.getElem_mem hi
    have hs := smN_take p k ts xs i hi
    rw [h] at hs
    refine ⟨dn, dm, f, by rw [List.getD_eq_getElem?_getD, List.getElem?_eq_getElem hi, h]; rfl, (hts _ hm).1, (hts _ hm).2.1, (hts _ hm).2.2, hs⟩)
  have hgo := Lib.hid (fun (i : Nat) => smN_good (k := k) (show 0 < p by omega) (ts.take i) xs (fun t ht => (hts t (List.mem_of_mem_take ht)).1) hG)
  have hle := Lib.hid (fun (i : Nat) => smN_len p k (ts.take i) xs)
  have hs0 := Lib.hid (show smN p k (ts.take 0) xs = xs from rfl)
  have hsl := Lib.hid (show smN p k (ts.take ts.length) xs = smN p k ts xs by rw [List.take_length])
  have hem := Lib.hid (fun w => emptyS_any p c n (some ⟨a1, 0, none⟩) xs.length cap1 w)
  have h16x := Lib.hid (good16 hG)
  have hxl := Lib.hid (show ([] : List Tm).length + xs.length < 2097152 by simp; omega)
  have hR1' := Lib.hid hR1
  have hR2' := Lib.hid hR2
  have hR2w := Lib.hid (fun w' (hb : Below w.heap.size w w') => hR2.below hb)
  obtain ⟨l, hl⟩ : ∃ l, ts.length = l := ⟨_, rfl⟩
  have hll := Lib.hid hl
  rw [hl] at hsl hgt hl0 ⊢
  obtain ⟨F, hF⟩ : ∃ F : Nat → List Tm, F = fun i => smN p k (ts.take i) xs := ⟨_, rfl⟩
  have hF' : ∀ i, smN p k (ts.take i) xs = F i := fun i => by rw [hF]
  simp only [hF'] at hgt hgo hs0 hsl hle
  have hlt2 := Lib.hid (fun i => show (F i).length ≤ 2000 from by
    have h := hle.out i
    have h2 : (ts.take i).length ≤ ts.length := by rw [List.length_take]; omega
    omega)
  obtain ⟨R, hRR⟩ : ∃ R, smN p k ts xs = R := ⟨_, rfl⟩
  rw [hRR] at hsl ⊢
  clear hR1 hR2 hts hF hF' hG hle hl hRR
  unfold ecl at *
  go_enter Try.func47, Try.ntmps47
  go_wp2_with (first
    | (go_at_call 57; ((with_reducible refine (hem.out _).mono ?_); rintro e w1 ⟨g1, rfl, hg1, hO1, hB1⟩; have oX1 := (((Own.new w #[.int .i64 p, .int .i64 c, .int .i64 n, .slice (some ⟨a1, 0, none⟩) xs.length cap1] 28).alloc (.cells #[.int .i64 p2, .int .i64 c2, .int .i64 n2, .slice (some ⟨a2, 0, none⟩) l cap2] 28)).alloc (.cells #[.int .i64 0, .int .i64 0, .int .i64 0, .slice none 0 0] 28)).below hB1 (by simp; omega); have oY1 := ((Own.at (w.alloc (.cells #[.int .i64 p, .int .i64 c, .int .i64 n, .slice (some ⟨a1, 0, none⟩) xs.length cap1] 28)) #[.int .i64 p2, .int .i64 c2, .int .i64 n2, .slice (some ⟨a2, 0, none⟩) l cap2] 28 (by simp : _ = w.heap.size + 1)).alloc (.cells #[.int .i64 0, .int .i64 0, .int .i64 0, .slice none 0 0] 28)).below hB1 (by simp); have oR1 := (Own.at ((w.alloc (.cells #[.int .i64 p, .int .i64 c, .int .i64 n, .slice (some ⟨a1, 0, none⟩) xs.length cap1] 28)).alloc (.cells #[.int .i64 p2, .int .i64 c2, .int .i64 n2, .slice (some ⟨a2, 0, none⟩) l cap2] 28)) #[.int .i64 0, .int .i64 0, .int .i64 0, .slice none 0 0] 28 (by simp : _ = w.heap.size + 1 + 1)).below hB1 (by simp); have b1 : Below w.heap.size w w1 := ((((Below.refl w.heap.size w).alloc (Nat.le_refl _) _).alloc (by simp) _).alloc (by simp; omega) _).trans (hB1.mono (by simp; omega)); have g1b : w.heap.size + 1 + 1 + 1 ≤ g1 := (by simpa using hg1); have xc : (w1.alloc (.cells #[.int .i64 p, .int .i64 c, .int .i64 n, .slice (some ⟨g1, 0, none⟩) 0 0] 28)).cell? ⟨w.heap.size, 3, none⟩ = some (.slice (some ⟨a1, 0, none⟩) xs.length cap1) := (oX1.alloc _).cell 3; have rt1 : RowT (w1.alloc (.cells #[.int .i64 p, .int .i64 c, .int .i64 n, .slice (some ⟨g1, 0, none⟩) 0 0] 28)) w.heap.size (.slice (some ⟨g1, 0, none⟩) 0 0) [] := ⟨rfl, .inr ⟨g1, 0, #[], rfl, by omega, hO1.alloc _, Nat.le_refl _, by unfold maxLen; omega, rfl, rfl⟩⟩; have fl1 := Lib.hid (RdT.flat ((hR1'.out.below b1).al (.cells #[.int .i64 p, .int .i64 c, .int .i64 n, .slice (some ⟨g1, 0, none⟩) 0 0] 28)) h16x.out); have zb := b1.size; clear hB1))
    | (refine wpList_append_terms rfl (.tmp 12) (.tmp 14) rfl w.heap.size (.slice (some ⟨g1, 0, none⟩) 0 0) [] xs h16x.out rfl rt1 (by simp) ⟨a1, 0, none⟩ cap1 rfl fl1.out hxl.out (by simp; omega) ?_; intro v2 w2 hT2 hv2 hG2; obtain ⟨g2, cap2', rfl, hc2, hM2⟩ := hT2.mn hv2; rw [List.nil_append] at hc2 hM2 ⊢; have eg : ∀ j, j < w1.heap.size + 1 → j ≠ g1 → w2.heap[j]? = (w1.alloc (.cells #[.int .i64 p, .int .i64 c, .int .i64 n, .slice (some ⟨g1, 0, none⟩) 0 0] 28)).heap[j]? := (fun j hj hne => hG2.block j (by simp; omega) (fun e => hne (by have := Option.some.inj e; exact this))); have oE2 : Own w2 w1.heap.size #[.int .i64 p, .int .i64 c, .int .i64 n, .slice (some ⟨g1, 0, none⟩) 0 0] 28 := (eg _ (by omega) (by have := hO1.lt; omega)).trans (Own.new w1 _ _); have e3 : w2.cell? ⟨w1.heap.size, 3, none⟩ = some (.slice (some ⟨g1, 0, none⟩) 0 0) := oE2.cell 3; have f3 := oE2.free 3))
  have hc2' : xs.length ≤ cap2' := hc2
  have hs3 : ∀ j, j ≠ w1.heap.size → (w2.setCell ⟨w1.heap.size, 3, none⟩ (.slice (some ⟨g2, 0, none⟩) xs.length cap2')).heap[j]? = w2.heap[j]? := fun j hj => Below.heap_setCell _ _ _ _ hj
  have hw1 : ∀ j, j < w1.heap.size → j ≠ g1 → (w2.setCell ⟨w1.heap.size, 3, none⟩ (.slice (some ⟨g2, 0, none⟩) xs.length cap2')).heap[j]? = w1.heap[j]? := fun j hj hne => (hs3 j (by omega)).trans ((eg j (by omega) hne).trans (Below.heap_alloc _ _ _ hj))
  have lX := oX1.lt
  have lY := oY1.lt
  have lR := oR1.lt
  have oX3 := (hw1 _ lX (by omega)).trans oX1
  have oY3 := (hw1 _ lY (by omega)).trans oY1
  have oR3 := (hw1 _ lR (by omega)).trans oR1
  have oE3 := oE2.set 3 (.slice (some ⟨g2, 0, none⟩) xs.length cap2')
  have hM3 : MnT (w2.setCell ⟨w1.heap.size, 3, none⟩ (.slice (some ⟨g2, 0, none⟩) xs.length cap2')) w.heap.size g2 xs := by
    obtain ⟨h0, sp, ho⟩ := hM2
    exact ⟨h0, sp, ho.only (Only.set w1.heap.size 3 w2 (.slice (some ⟨g2, 0, none⟩) xs.length cap2')) (ho.neTz oE2 (by decide))⟩
  have b2 : Below w.heap.size w w2 := (b1.alloc b1.size _).grown hG2 (by have := b1.size; simp; omega) (fun j e => by obtain rfl : g1 = j := Option.some.inj e; omega)
  have b3 := b2.setCell (p := ⟨w1.heap.size, 3, none⟩) (by show w.heap.size ≤ w1.heap.size; exact zb) (.slice (some ⟨g2, 0, none⟩) xs.length cap2')
  have r3 := hR2'.out.below b3
  have z3 : w1.heap.size < (w2.setCell ⟨w1.heap.size, 3, none⟩ (.slice (some ⟨g2, 0, none⟩) xs.length cap2')).heap.size := by have := oE2.lt; simp; omega
  obtain ⟨e7, he7⟩ : ∃ e7, w1.heap.size = e7 := ⟨_, rfl⟩
  rw [he7] at hs3 hw1 lX lY lR oX3 oY3 oR3 oE3 hM3 b3 r3 z3 ⊢
  have e7b : w.heap.size + 1 + 1 < e7 := by omega
  clear oX1 oY1 oR1 oE2 hO1 b1 xc rt1 fl1 hG2 hT2 hv2 eg e3 f3 hs3 hw1 lX lY lR b2 hM2 hc2 hR2' hR1' he7
  generalize (w2.setCell ⟨e7, 3, none⟩ (.slice (some ⟨g2, 0, none⟩) xs.length cap2')) = w3 at *
  go_loopw [8] (fun x wr => ∃ i : Nat, i ≤ l ∧ x = .int .i64 i ∧ ∃ g cap, (F i).length ≤ cap ∧ MnT wr w.heap.size g (F i) ∧ Own wr w.heap.size #[.int .i64 p, .int .i64 c, .int .i64 n, .slice (some ⟨a1, 0, none⟩) xs.length cap1] 28 ∧ Own wr (w.heap.size + 1) #[.int .i64 p2, .int .i64 c2, .int .i64 n2, .slice (some ⟨a2, 0, none⟩) l cap2] 28 ∧ Own wr (w.heap.size + 1 + 1) #[.int .i64 0, .int .i64 0, .int .i64 0, .slice none 0 0] 28 ∧ Own wr e7 #[.int .i64 p, .int .i64 c, .int .i64 n, .slice (some ⟨g, 0, none⟩) (F i).length cap] 28 ∧ RdT wr (some ⟨a2, 0, none⟩) ts ∧ Below w.heap.size w wr) (fun x _ => (l - intOf x).toNat)
  case atStart => exact ⟨0, by omega, rfl, g2, cap2', by rw [hs0.out]; exact hc2', by rw [hs0.out]; exact hM3, oX3, oY3, oR3, by rw [hs0.out]; exact oE3, r3, b3⟩
  case round =>
    clear oX3 oY3 oR3 oE3 hM3 b3 r3 z3
    obtain ⟨i, hi, rfl, g, cap, hcap, hM, oX, oY, oR, oE, rT, hB⟩ := hrel
    have y3 : wr.cell? ⟨w.heap.size + 1, 3, none⟩ = some (.slice (some ⟨a2, 0, none⟩) l cap2) := oY.cell 3
    by_cases hlt : i < l
    · have lI : (i : Int) < (l : Int) := by omega
      obtain ⟨dn, dm, f, htd, hvd, f0, f1, hsu⟩ := hgt.out i hlt
      have hct := Lib.hid (fun wd (h : RdT wd (some ⟨a2, 0, none⟩) ts) j v (hv : (tcl (dn, dm, f))[j]? = some v) => show wd.cell? ((⟨a2, i * 18, none⟩ : Addr).add j) = some v from by
        have := h.cell _ rfl i (by rw [hll.out]; exact hlt) j v (by rw [htd]; exact hv)
        rw [Addr.add_mid (o := 0), Nat.zero_add] at this
        exact this)
      have hcf := Lib.hid (fun wd (h : RdT wd (some ⟨a2, 0, none⟩) ts) => show wd.cell? ⟨a2, i * 18 + 17, none⟩ = some (.int .i64 f) from by
        have := hct.out wd h 17 _ (tcl_fac hvd.2.1)
        rw [Addr.add_mid] at this
        exact this)
      have kf : -100000000 ≤ k * f ∧ k * f ≤ 100000000 := by
        have a1 := Int.mul_le_mul_of_nonneg_right hk1 f0
        have a2 := Int.mul_le_mul_of_nonneg_right hk0 f0
        omega
      have wf : wrap64 (k * f) = k * f := IntWalk.wrap64_in _ (by omega)
      have hGi := hgo.out i
      have hput := Lib.hid (fun wd hMd hB => putS_any w.heap.size g cap (F i) p (k * f) dn dm wd hMd hB hcap (by have := hlt2.out i; omega) hGi hp hp2 (by omega) (by omega) hvd)
      rw [← hsu] at hput
      obtain ⟨kf', hkf⟩ : ∃ z, k * f = z := ⟨_, rfl⟩
      rw [hkf] at wf hput
      have hdl := Lib.hid hvd.2.1
      clear hvd hGi htd hsu kf
      go_upto_region 6 with (first | fail)
      refine wp_region_st (fun x => Own x w.heap.size #[.int .i64 p, .int .i64 c, .int .i64 n, .slice (some ⟨a1, 0, none⟩) xs.length cap1] 28 ∧ Own x (w.heap.size + 1) #[.int .i64 p2, .int .i64 c2, .int .i64 n2, .slice (some ⟨a2, 0, none⟩) l cap2] 28 ∧ Own x e7 #[.int .i64 p, .int .i64 c, .int .i64 n, .slice (some ⟨g, 0, none⟩) (F i).length cap] 28 ∧ RdT x (some ⟨a2, 0, none⟩) ts) [(true, 0), (true, 1), (true, 2), (true, 3), (true, 4), (true, 5), (true, 6), (true, 7), (true, 8), (true, 9), (true, 10), (true, 11), (true, 12), (true, 13), (true, 14), (true, 15), (true, 16), (true, 17), (false, 18)] 19 (by kernel_rfl) (by kernel_rfl) ⟨oX.drewN 1, oY.drewN 1, oE.drewN 1, rT.below (Below.refl _ wr).drew⟩ ?_
      have oXd : Own { wr with drawn := wr.drawn + 1 } w.heap.size #[.int .i64 p, .int .i64 c, .int .i64 n, .slice (some ⟨a1, 0, none⟩) xs.length cap1] 28 := oX
      have oYd : Own { wr with drawn := wr.drawn + 1 } (w.heap.size + 1) #[.int .i64 p2, .int .i64 c2, .int .i64 n2, .slice (some ⟨a2, 0, none⟩) l cap2] 28 := oY
      have oRd : Own { wr with drawn := wr.drawn + 1 } (w.heap.size + 1 + 1) #[.int .i64 0, .int .i64 0, .int .i64 0, .slice none 0 0] 28 := oR
      have oEd : Own { wr with drawn := wr.drawn + 1 } e7 #[.int .i64 p, .int .i64 c, .int .i64 n, .slice (some ⟨g, 0, none⟩) (F i).length cap] 28 := oE
      have hMd : MnT { wr with drawn := wr.drawn + 1 } w.heap.size g (F i) := hM
      have rTd : RdT { wr with drawn := wr.drawn + 1 } (some ⟨a2, 0, none⟩) ts := rT.below (Below.refl _ wr).drew
      have hBd : Below w.heap.size w { wr with drawn := wr.drawn + 1 } := hB.drew
      clear oX oY oR oE hM rT hB y3
      generalize ({ wr with drawn := wr.drawn + 1 } : World) = w4 at *
      simp only [List.map_cons, List.map_nil, opS'_mk, opN_zero, opN_succ, List.drop_succ_cons, List.drop_zero]
      (apply wpSt_read; · (intro wd hS K hK; clear hS; go_simp; exact hK))
      (apply wpSt_read; · (intro wd hS K hK; have d0 : wd.cell? ⟨w.heap.size, 0, none⟩ = some (.int .i64 p) := hS.1.cell 0; clear hS; go_simp; exact hK))
      (apply wpSt_read; · (intro wd hS K hK; clear hS; go_simp; exact hK))
      (apply wpSt_read; · (intro wd hS K hK; have d3 : wd.cell? ⟨e7, 3, none⟩ = some (.slice (some ⟨g, 0, none⟩) (F i).length cap) := hS.2.2.1.cell 3; clear hS; go_simp; exact hK))
      (apply wpSt_read; · (intro wd hS K hK; clear hS; go_simp; exact hK))
      (apply wpSt_read; · (intro wd hS K hK; have d3 : wd.cell? ⟨w.heap.size + 1, 3, none⟩ = some (.slice (some ⟨a2, 0, none⟩) l cap2) := hS.2.1.cell 3; clear hS; go_simp; exact hK))
      (apply wpSt_read; · (intro wd hS K hK; clear hS; go_simp; exact hK))
      (apply wpSt_read; · (intro wd hS K hK; clear hS; go_simp; exact hK))
      (apply wpSt_read; · (intro wd hS K hK; clear hS; go_simp; exact hK))
      (apply wpSt_read; · (intro wd hS K hK; rw [if_pos (by rfl)]; refine still_load_at 68 (.tmp 32) rfl ⟨a2, i * 18, none⟩ rfl (dcells dn dm).toList _ (fun j v hv => hct.out wd hS.2.2.2 j v (tcl_dia hv)) Try.underlying68 rfl (by rw [dl17 hdl.out]; kernel_rfl) ?_; exact hK))
      (apply wpSt_read; · (intro wd hS K hK; clear hS; go_simp; exact hK))
      (apply wpSt_read; · (intro wd hS K hK; clear hS; go_simp; exact hK))
      (apply wpSt_read; · (intro wd hS K hK; have d3 : wd.cell? ⟨w.heap.size + 1, 3, none⟩ = some (.slice (some ⟨a2, 0, none⟩) l cap2) := hS.2.1.cell 3; clear hS; go_simp; exact hK))
      (apply wpSt_read; · (intro wd hS K hK; clear hS; go_simp; exact hK))
      (apply wpSt_read; · (intro wd hS K hK; clear hS; go_simp; exact hK))
      (apply wpSt_read; · (intro wd hS K hK; clear hS; go_simp; exact hK))
      (apply wpSt_read; · (intro wd hS K hK; have d3 := hcf.out wd hS.2.2.2; clear hS; go_simp; exact hK))
      (apply wpSt_read; · (intro wd hS K hK; clear hS; go_simp; exact hK))
      refine wpSt_keep (fun K hK => ?_)
      go_wp2_with (first
        | (go_at_call 62; ((with_reducible refine (hput.out w4 hMd hBd.size).mono ?_); rintro e w5 ⟨⟨g5, cap5, rfl, hc5, hM5⟩, hB5⟩)))
      have oX5 := oXd.below hB5 oXd.lt
      have oY5 := oYd.below hB5 oYd.lt
      have oR5 := oRd.below hB5 oRd.lt
      have oE5 := oEd.below hB5 oEd.lt
      have rT5 := rTd.below hB5
      have b5 := hBd.trans (hB5.mono hBd.size)
      refine hK _ _ ⟨oX5, oY5, oE5, rT5⟩ rfl ?_
      clear hK K oXd oYd oRd oEd rTd hBd hMd hB5
      refine wpSt_nil ?_
      have e5 : w5.cell? ⟨e7, 3, none⟩ = some (.slice (some ⟨g, 0, none⟩) (F i).length cap) := oE5.cell 3
      have f5 := oE5.free 3
      go_wp2
      have hs6 : ∀ v j, j ≠ e7 → (w5.setCell ⟨e7, 3, none⟩ v).heap[j]? = w5.heap[j]? := fun v j hj => Below.heap_setCell _ _ _ _ hj
      have oE6 := oE5.set 3 (.slice (some ⟨g5, 0, none⟩) (F (i + 1)).length cap5)
      have b6 := b5.setCell (p := ⟨e7, 3, none⟩) (by show w.heap.size ≤ e7; omega) (.slice (some ⟨g5, 0, none⟩) (F (i + 1)).length cap5)
      have r6 : RdT (w5.setCell ⟨e7, 3, none⟩ (.slice (some ⟨g5, 0, none⟩) (F (i + 1)).length cap5)) (some ⟨a2, 0, none⟩) ts := hR2w.out _ b6
      have hM6 : MnT (w5.setCell ⟨e7, 3, none⟩ (.slice (some ⟨g5, 0, none⟩) (F (i + 1)).length cap5)) w.heap.size g5 (F (i + 1)) := by
        obtain ⟨h0, sp, ho⟩ := hM5
        exact ⟨h0, sp, ho.only (Only.set e7 3 w5 _) (ho.neTz oE5 (by decide))⟩
      go_roundw
      case rel => exact ⟨i + 1, by omega, by go_num, g5, cap5, hc5, hM6, (hs6 _ _ (by omega)).trans oX5, (hs6 _ _ (by omega)).trans oY5, (hs6 _ _ (by omega)).trans oR5, oE6, r6, b6⟩
      case measure => simp [intOf]; omega
    · obtain rfl : i = l := by omega
      have lI : ¬ (i : Int) < (i : Int) := by omega
      go_wp2_with (first
        | (refine wpList_load_row rfl 28 _ rfl _ rfl 28 _ (0, 0) _ oE Try.underlying28 rfl (by kernel_rfl) ?_)
        | (refine wpList_store_own rfl 28 _ _ rfl _ _ rfl rfl 28 _ oR (by kernel_rfl) rfl (by simp [Value.oneCell']) ?_; intro w7 oR7 hN7))
      rw [hsl.out] at hcap hM oR7 ⊢
      have hM7 : MnT w7 w.heap.size g R := by
        obtain ⟨h0, sp, ho⟩ := hM
        exact ⟨h0, sp, ho.only hN7 (ho.neTz oR (by decide))⟩
      refine bodyPost_ret (v := .agg #[.int .i64 p, .int .i64 c, .int .i64 n, .slice (some ⟨g, 0, none⟩) R.length cap]) (results_cell_row rfl _ _ _ _ _ (0, 0) _ rfl oR7 Try.underlying28 rfl (by kernel_rfl)) rfl ⟨⟨g, cap, rfl, hcap, hM7⟩, hB.trans (hN7.below.mono (by omega))⟩
end Go.Proofs.Ytpmcngmphkegnaa
