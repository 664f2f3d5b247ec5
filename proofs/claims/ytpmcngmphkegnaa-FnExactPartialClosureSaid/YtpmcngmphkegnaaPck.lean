/- The partial closure of a diagram: the program's walk. (Written by genpck.py.) -/
import Derived.Test.YtpmcngmphkegnaaPcj
namespace Go.Proofs.Ytpmcngmphkegnaa
open Go.RowKit Go.Lib
set_option linter.unusedVariables false
set_option linter.unusedSimpArgs false
set_option maxRecDepth 100000 in
set_option maxHeartbeats 4000000 in
theorem clI_any (n : Int) (ms : List Int) (h2 : 2 ≤ n) (hd : VD (n, ms)) (w : World) :
    Calls Try.prog 73 #[.agg (dcells n ms)] w fun e w' => e = .returned (.tuple #[.agg (dcells (n - 1) (clL n ms)), .int .i64 (clO n ms)]) ∧ Below w.heap.size w w' := by
  have hIs := (isD_iff n ms hd.2.1 hd.2.2).1 hd.1
  have h8 : n ≤ 8 := hIs.1.2
  have M : Mt n (mate ms) := mt_of hd.2.2 hIs
  have hm16 := Lib.hid hd.2.1
  have hMM := Lib.hid M
  have hF := Lib.hid (jnF_cl h2 hd)
  have hcl := Lib.hid (clL_len n ms)
  have hc := Lib.hid (fun (x : Int) (pn : Nat) (w : World) (ho : Own w pn #[.int .i64 n] 2) (h0 : 0 ≤ x) (h1 : x < 16) => clC_any n x pn w ho h0 h1)
  have hE := Lib.hid (fun args w => clC_enters args w)
  have c0 := dcells_zero n ms
  have hmf : ∀ (fn : Fn) (first cap : Array Value) (w : World), (Instr.makeFunc fn first cap).run Try.prog w = .ok (.func fn first cap) w := fun _ _ _ _ => rfl
  obtain ⟨u, hu⟩ : ∃ u, n - 1 = u := ⟨_, rfl⟩
  obtain ⟨v, hv⟩ : ∃ v, 2 * n - 1 = v := ⟨_, rfl⟩
  have hclo0 : clO n ms = if mate ms (n - 1) = 2 * n - 1 then 1 else 0 := rfl
  obtain ⟨CL, hCL⟩ : ∃ CL, clL n ms = CL := ⟨_, rfl⟩
  obtain ⟨co, hco⟩ : ∃ co, clO n ms = co := ⟨_, rfl⟩
  rw [hCL] at hF hcl
  rw [hco, hu, hv] at hclo0
  rw [hCL, hco, hu]
  have hclo := Lib.hid hclo0
  clear hIs M hd hCL hco hclo0
  go_enter Try.func73, Try.ntmps73
  go_upto_region 2 with fail
  change Code.wp _ _ _ _ (((w.alloc (.cells (dcells n ms) 68)).alloc (.cells zcells 68)).alloc (.cells #[.int .i64 n] 2))
  obtain ⟨w3, hwd⟩ : ∃ w3, (((w.alloc (.cells (dcells n ms) 68)).alloc (.cells zcells 68)).alloc (.cells #[.int .i64 n] 2)) = w3 := ⟨_, rfl⟩
  have hO1 : Own w3.drew w.heap.size (dcells n ms) 68 := by rw [← hwd]; exact Own.alloc (Own.alloc (Own.new _ _ _) _) _
  have hR1 : Own w3.drew (w.heap.size + 1) zcells 68 := by rw [← hwd]; exact Own.alloc (Own.at _ _ _ (by simp)) _
  have hN1 : Own w3.drew (w.heap.size + 2) #[.int .i64 n] 2 := by rw [← hwd]; exact Own.at _ _ _ (by simp)
  have hB1 : Below w.heap.size w w3.drew := by rw [← hwd]; exact ((((Below.refl w.heap.size w).alloc (Nat.le_refl _) _).alloc (by simp) _).alloc (by simp; omega) _).drew
  have hs1 : w3.drew.heap.size = w.heap.size + 3 := by rw [← hwd]; simp [World.drew]
  rw [hwd]
  clear hwd
  refine wp_region_still_tail 6 (by kernel_rfl) (by kernel_rfl) ?_
  obtain ⟨wd, hwd⟩ : ∃ wd, w3.drew = wd := ⟨_, rfl⟩
  rw [hwd] at hO1 hR1 hN1 hB1 hs1
  rw [show ({ w3 with drawn := w3.drawn + 1 } : World) = wd from hwd]
  clear hwd
  simp only [List.take_succ_cons, List.take_zero, List.drop_succ_cons, List.drop_zero]
  have k1 : wd.cell? ⟨w.heap.size + 1 + 1, 0, none⟩ = some (.int .i64 n) := hN1.cell 0
  have r1 : IntKind.i64.wrap u = u := IntWalk.i64_in _ (by omega)
  have r2 : IntKind.i64.wrap (2 * n) = 2 * n := IntWalk.i64_in _ (by omega)
  have r3 : IntKind.i64.wrap v = v := IntWalk.i64_in _ (by omega)
  still_step
  still_step
  still_step
  still_step
  still_step
  still_step
  refine wpStill_nil ?_
  clear r1 r2 r3
  have hnm : Calls Try.prog 108 #[] wd fun e w' => e = .returned (.slice (some ⟨w.heap.size + 3, 0, none⟩) 16 16) ∧ Own w' w.heap.size (dcells n ms) 68 ∧ Own w' (w.heap.size + 1) zcells 68 ∧ Own w' (w.heap.size + 2) #[.int .i64 n] 2 ∧ Own w' (w.heap.size + 3) (mcells (jnC n ms 0)) 5 ∧ Below w.heap.size w w' := by
    refine (newMates_any wd).mono ?_
    rintro e w' ⟨rfl, rfl⟩
    rw [hs1]
    exact ⟨rfl, hO1.alloc _, hR1.alloc _, hN1.alloc _, Own.at _ _ _ hs1, hB1.alloc (by omega) _⟩
  replace hnm := Lib.hid hnm
  clear hO1 hR1 hN1 hB1 hs1 k1 c0
  go_wp2_with (first
    | (go_at_call 108; ((with_reducible refine (hnm.out).mono ?_); rintro e wl ⟨rfl, hO0, hR0, hN0, hC0, hB0⟩)))
  clear hnm
  go_loopw [21] (fun i wr => ∃ k : Nat, k ≤ v ∧ i = .int .i64 k ∧ Own wr w.heap.size (dcells n ms) 68 ∧ Own wr (w.heap.size + 1) zcells 68 ∧ Own wr (w.heap.size + 2) #[.int .i64 n] 2 ∧ Own wr (w.heap.size + 3) (mcells (jnC n ms k)) 5 ∧ Below w.heap.size w wr) (fun i _ => (v - intOf i).toNat)
  case atStart => exact ⟨0, by omega, rfl, hO0, hR0, hN0, hC0, hB0⟩
  case round =>
    clear hO0 hR0 hN0 hC0 hB0
    obtain ⟨k, hk, rfl, hO, hR, hN, hC, hB⟩ := hrel
    by_cases hlt : (k : Int) < v
    · obtain ⟨m0, m2⟩ := hMM.out.lt k (by omega) (by omega)
      have c1 : (dcells n ms)[1 + k]? = some (.int .u8 (mate ms k)) := by rw [dcells_get _ _ _ (by have : (n, ms).2.length = 16 := hm16.out; simp at this; omega), ← mate_nat]
      have hjl := jnC_len n ms k
      have hst : jnC n ms (k + 1) = if (k : Int) ≠ n - 1 ∧ mate ms k ≠ n - 1 ∧ mate ms k ≠ 2 * n - 1 then joinL (jnC n ms k) (lfC n k) (lfC n (mate ms k)) else jnC n ms k := by rw [jnC]
      have hal : (k : Int) ≠ u → alC n k := fun h => ⟨by omega, by omega, by omega, by omega⟩
      have ham : mate ms k ≠ u → mate ms k ≠ v → alC n (mate ms k) := fun h h' => ⟨by omega, by omega, by omega, by omega⟩
      rw [hu, hv] at hst
      obtain ⟨m, hm⟩ : ∃ m, mate ms k = m := ⟨_, rfl⟩
      rw [hm] at m0 m2 c1 hst ham
      have k1 := hO.cell (1 + k)
      rw [c1] at k1
      have hk16 : (k : Int) < 16 := by omega
      replace hst := Lib.hid hst
      replace hal := Lib.hid hal
      replace ham := Lib.hid ham
      replace hjl := Lib.hid hjl
      clear hm c1
      rcases (show (k : Int) = u ∨ ((k : Int) ≠ u ∧ m = u) ∨ ((k : Int) ≠ u ∧ m ≠ u ∧ m = v) ∨ ((k : Int) ≠ u ∧ m ≠ u ∧ m ≠ v) by omega) with q1 | ⟨q1, q2⟩ | ⟨q1, q2, q3⟩ | ⟨q1, q2, q3⟩
      · have z0 : ((k : Int) != u) = false := by simp; omega
        have hj : jnC n ms (k + 1) = jnC n ms k := by rw [hst.out, if_neg (by omega)]
        replace hj := Lib.hid hj
        replace q1 := Lib.hid q1
        go_wp2
        go_roundw
        case rel => exact ⟨k + 1, by omega, by go_num, hO, hR, hN, by rw [hj.out]; exact hC, hB⟩
        case measure => simp [intOf]; omega
      · have z0 : ((k : Int) != u) = true := by simp; omega
        have z1 : (m != u) = false := by simp; omega
        have hj : jnC n ms (k + 1) = jnC n ms k := by rw [hst.out, if_neg (by omega)]
        replace hj := Lib.hid hj
        go_wp2
        go_roundw
        case rel => exact ⟨k + 1, by omega, by go_num, hO, hR, hN, by rw [hj.out]; exact hC, hB⟩
        case measure => simp [intOf]; omega
      · have z0 : ((k : Int) != u) = true := by simp; omega
        have z1 : (m != u) = true := by simp; omega
        have z2 : (m != v) = false := by simp; omega
        have hj : jnC n ms (k + 1) = jnC n ms k := by rw [hst.out, if_neg (by omega)]
        replace hj := Lib.hid hj
        go_wp2
        go_roundw
        case rel => exact ⟨k + 1, by omega, by go_num, hO, hR, hN, by rw [hj.out]; exact hC, hB⟩
        case measure => simp [intOf]; omega
      · have z0 : ((k : Int) != u) = true := by simp; omega
        have z1 : (m != u) = true := by simp; omega
        have z2 : (m != v) = true := by simp; omega
        have hj : jnC n ms (k + 1) = joinL (jnC n ms k) (lfC n k) (lfC n m) := by rw [hst.out, if_pos ⟨q1, q2, q3⟩]
        replace hj := Lib.hid hj
        have e1 := lf_em h2 (hal.out q1)
        have e2 := lf_em h2 (ham.out q2 q3)
        have d1 := Lib.hid (show Calls Try.prog 112 #[.int .i64 k, .pointer (some ⟨w.heap.size + 1 + 1, 0, none⟩)] wr fun e w' => e = .returned (.int .i64 (lfC n k)) ∧ w' = wr from hc.out k (w.heap.size + 2) wr hN (by omega) (by omega))
        have d2 := Lib.hid (show Calls Try.prog 112 #[.int .i64 m, .pointer (some ⟨w.heap.size + 1 + 1, 0, none⟩)] wr fun e w' => e = .returned (.int .i64 (lfC n m)) ∧ w' = wr from hc.out m (w.heap.size + 2) wr hN (by omega) (by omega))
        obtain ⟨a, ha⟩ : ∃ a, lfC n k = a := ⟨_, rfl⟩
        obtain ⟨b, hb⟩ : ∃ b, lfC n m = b := ⟨_, rfl⟩
        rw [ha] at hj e1 d1
        rw [hb] at hj e2 d2
        have e1' := e1.1
        have e1'' := e1.2.1
        have e2' := e2.1
        have e2'' := e2.2.1
        clear e1 e2 ha hb
        have hEE := hE.out
        clear hal ham hst
        replace hN := Lib.hid hN
        go_wp2_with (first
          | (go_at_call 112; ((with_reducible refine (d1.out).mono ?_); rintro e w' ⟨rfl, rfl⟩))
          | (go_at_call 112; ((with_reducible refine (d2.out).mono ?_); rintro e w' ⟨rfl, rfl⟩))
          | (go_at_call 109; ((with_reducible refine (join_any (w.heap.size + 3) _ hjl.out a b _ hC e1' (by omega) e2' (by omega)).mono ?_); rintro e w2 ⟨rfl, hC2, hN2⟩)))
        go_roundw
        case rel =>
          exact ⟨k + 1, by omega, by go_num, hO.only hN2 (by omega), hR.only hN2 (by omega), hN.out.only hN2 (by omega), by rw [hj.out]; exact hC2, hB.trans (hN2.most.below hB.size (by omega))⟩
        case measure => simp [intOf]; omega
    · have hkv : (2 * n - 1).toNat = k := by omega
      have hJ := hF.out
      unfold jnF at hJ
      rw [hkv] at hJ
      have hjl := Lib.hid (jnC_len n ms k)
      replace hclo := hclo.out
      obtain ⟨J, hJJ⟩ : ∃ J, jnC n ms k = J := ⟨_, rfl⟩
      rw [hJJ] at hJ hjl hC
      have a1 := hMM.out.lt u (by omega) (by omega)
      have a2 := hMM.out.lt v (by omega) (by omega)
      have hal : mate ms u ≠ v → alC n (mate ms u) ∧ alC n (mate ms v) := fun h => by
        have := ends_al h2 hMM.out (by rw [hu, hv]; exact h)
        rw [hu, hv] at this
        exact ⟨this.1, this.2.1⟩
      have c1 : (dcells n ms)[1 + u.toNat]? = some (.int .u8 (mate ms u)) := by rw [dcells_get _ _ _ (by have : (n, ms).2.length = 16 := hm16.out; simp at this; omega)]; rfl
      have c2 : (dcells n ms)[1 + v.toNat]? = some (.int .u8 (mate ms v)) := by rw [dcells_get _ _ _ (by have : (n, ms).2.length = 16 := hm16.out; simp at this; omega)]; rfl
      rw [hu, hv] at hJ
      obtain ⟨m, hm⟩ : ∃ m, mate ms u = m := ⟨_, rfl⟩
      obtain ⟨m', hm'⟩ : ∃ m, mate ms v = m := ⟨_, rfl⟩
      rw [hm] at hJ hclo a1 hal c1
      rw [hm'] at hJ a2 hal c2
      have C1 := hO.cell (1 + u.toNat)
      rw [c1] at C1
      have C2 := hO.cell (1 + v.toNat)
      rw [c2] at C2
      have N1 : wr.cell? ⟨w.heap.size + 1 + 1, 0, none⟩ = some (.int .i64 n) := hN.cell 0
      obtain ⟨m0, m2⟩ := a1
      obtain ⟨m0', m2'⟩ := a2
      have u0 : 0 ≤ u := by omega
      have u16 : u < 16 := by omega
      have v0 : 0 ≤ v := by omega
      have v16 : v < 16 := by omega
      have hsz := Lib.hid hB.size
      clear hkv hJJ hm hm' c1 c2 hF
      by_cases q : m = v
      · rw [if_pos q] at hJ
        have hclo1 : co = 1 := by rw [hclo, if_pos q]
        subst hJ hclo1
        clear hclo hal C2
        replace q := Lib.hid q
        have z : (m == v) = true := by simp [q.out]
        have hR := Lib.hid hR
        go_wp2_with (first
          | (go_at_call 110; ((with_reducible refine (dom_any _ J hjl.out u _ hC).mono ?_); rintro e w2 ⟨rfl, hB2⟩))
          | (refine wpList_store_own rfl 68 _ _ rfl _ _ rfl rfl 68 _ (hR.out.below hB2 hR.out.lt) (row26 (d17 _ _ (hjl.out))) (z_eq (d17 _ _ hjl.out)) (dcells_one _ _) ?_; intro w5 hO3 hN3))
        refine bodyPost_ret (v := .tuple #[.agg (dcells u J), .int .i64 1]) (results_row_tmp rfl _ _ _ _ _ (0, 0) _ rfl (hO3) Try.underlying68 rfl (row26 (d17 _ _ (hjl.out))) _ rfl) rfl (⟨rfl, ?_⟩)
        exact (hB.trans (hB2.mono hsz.out)).trans (hN3.below.mono (by omega))
      · rw [if_neg q] at hJ
        have hclo1 : co = 0 := by rw [hclo, if_neg q]
        obtain ⟨al, al'⟩ := hal q
        have e1 := lf_em h2 al
        have e2 := lf_em h2 al'
        have d1 := fun wx hx => (show Calls Try.prog 112 #[.int .i64 m, .pointer (some ⟨w.heap.size + 1 + 1, 0, none⟩)] wx fun e w' => e = .returned (.int .i64 (lfC n m)) ∧ w' = wx from hc.out m (w.heap.size + 2) wx hx (by omega) (by omega))
        have d2 := fun wx hx => (show Calls Try.prog 112 #[.int .i64 m', .pointer (some ⟨w.heap.size + 1 + 1, 0, none⟩)] wx fun e w' => e = .returned (.int .i64 (lfC n m')) ∧ w' = wx from hc.out m' (w.heap.size + 2) wx hx (by omega) (by omega))
        obtain ⟨a, ha⟩ : ∃ a, lfC n m = a := ⟨_, rfl⟩
        obtain ⟨b, hb⟩ : ∃ b, lfC n m' = b := ⟨_, rfl⟩
        rw [ha] at hJ e1 d1
        rw [hb] at hJ e2 d2
        have e1' := e1.1
        have e1'' := e1.2.1
        have e2' := e2.1
        have e2'' := e2.2.1
        replace d1 := Lib.hid d1
        replace d2 := Lib.hid d2
        have hEE := hE.out
        have hjl2 := Lib.hid (joinL_len J a b ▸ hjl.out)
        have z : (m == v) = false := by simp [q]
        subst hclo1 hJ
        clear e1 e2 ha hb hclo hal al al'
        go_upto_region 14 with fail
        refine wp_region_still_tail 15 (by kernel_rfl) (by kernel_rfl) ?_
        have hO' : Own { wr with drawn := wr.drawn + 1 } w.heap.size (dcells n ms) 68 := hO
        have hR' : Own { wr with drawn := wr.drawn + 1 } (w.heap.size + 1) zcells 68 := hR
        have hN' : Own { wr with drawn := wr.drawn + 1 } (w.heap.size + 2) #[.int .i64 n] 2 := hN
        have hC' : Own { wr with drawn := wr.drawn + 1 } (w.heap.size + 3) (mcells J) 5 := hC
        have hB' : Below w.heap.size w { wr with drawn := wr.drawn + 1 } := hB.drew
        have C1' : World.cell? { wr with drawn := wr.drawn + 1 } ⟨w.heap.size, 1 + u.toNat, none⟩ = some (.int .u8 m) := C1
        have C2' : World.cell? { wr with drawn := wr.drawn + 1 } ⟨w.heap.size, 1 + v.toNat, none⟩ = some (.int .u8 m') := C2
        have S' : w.heap.size ≤ ({ wr with drawn := wr.drawn + 1 } : World).heap.size := hsz.out
        clear hO hR hN hC hB C1 C2 N1 hsz
        generalize ({ wr with drawn := wr.drawn + 1 } : World) = wd at *
        have q1 := Lib.hid (d1.out wd hN')
        have q2 := Lib.hid (d2.out wd hN')
        have r1 : IntKind.i64.wrap m = m := IntWalk.i64_in _ (by omega)
        have r2 : IntKind.i64.wrap m' = m' := IntWalk.i64_in _ (by omega)
        simp only [List.take_succ_cons, List.take_zero, List.drop_succ_cons, List.drop_zero]
        still_step
        still_step
        still_step
        still_step
        still_step
        still_step
        still_step
        still_call q1.out
        still_step
        still_step
        still_step
        still_step
        still_step
        still_step
        still_call q2.out
        refine wpStill_nil ?_
        clear r1 r2 hEE
        have N2 : wd.cell? ⟨w.heap.size + 1 + 1, 0, none⟩ = some (.int .i64 n) := hN'.cell 0
        replace hR' := Lib.hid hR'
        replace hB' := Lib.hid hB'
        replace S' := Lib.hid S'
        go_wp2_with (first
          | ((go_at_call 109; ((with_reducible refine (join_any (w.heap.size + 3) _ hjl.out a b _ hC' e1' (by omega) e2' (by omega)).mono ?_); rintro e w2 ⟨rfl, hC2, hN2⟩)); have N3 : w2.cell? ⟨w.heap.size + 1 + 1, 0, none⟩ = some (.int .i64 n) := (hN'.only hN2 (by omega)).cell 0; have hR2 := hR'.out.only hN2 (by omega); have hB2 := hB'.out.trans (hN2.most.below S'.out (by omega)); have S2 := Lib.hid hB2.size; replace hR2 := Lib.hid hR2; replace hB2 := Lib.hid hB2)
          | (go_at_call 110; ((with_reducible refine (dom_any _ (joinL J a b) hjl2.out u _ hC2).mono ?_); rintro e w4 ⟨rfl, hB4⟩))
          | (refine wpList_store_own rfl 68 _ _ rfl _ _ rfl rfl 68 _ (hR2.out.below hB4 hR2.out.lt) (row26 (d17 _ _ (hjl2.out))) (z_eq (d17 _ _ hjl2.out)) (dcells_one _ _) ?_; intro w5 hO3 hN3))
        refine bodyPost_ret (v := .tuple #[.agg (dcells u (joinL J a b)), .int .i64 0]) (results_row_tmp rfl _ _ _ _ _ (0, 0) _ rfl (hO3) Try.underlying68 rfl (row26 (d17 _ _ (hjl2.out))) _ rfl) rfl (⟨rfl, ?_⟩)
        exact (hB2.out.trans (hB4.mono S2.out)).trans (hN3.below.mono (by omega))
end Go.Proofs.Ytpmcngmphkegnaa
