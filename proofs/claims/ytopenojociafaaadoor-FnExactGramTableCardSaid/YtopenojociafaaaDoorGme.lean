/- The rank: the program's and the model's. The elimination of rows: the program. The rank and the determinant of a table: the program's. -/
import Derived.Test.YtopenojociafaaaDoorGmb
namespace Go.Proofs.YtopenojociafaaaDoor
open Go.RowKit
set_option linter.unusedVariables false
set_option linter.unusedSimpArgs false
theorem rk_same {p : Int} {n : Nat} (hp : primeB p = true) (f : Nat) : ∀ (T : List (List Int)) (r k : Nat), f ≤ n → T.length = k → RowsOk p n (n - f) T → rkI p n k T r = rkM p n f T r := by
  induction f with
  | zero =>
    intro T r k _ hT h
    cases k with
    | zero => rfl
    | succ k =>
      have hl := lst_lt T (k + 1) (by omega)
      have hle := ff_le (rw' T (lst T (k + 1)))
      have hln := h.len (lst T (k + 1)) (by omega)
      have hge := ff_ge (rw' T (lst T (k + 1))) n (by omega) (fun j hj => h.zr _ j (by omega) (by omega))
      unfold rkI
      rw [if_pos (by omega)]; rfl
  | succ f ih =>
    intro T r k hf hT h
    have hc : n - (f + 1) < n := by omega
    unfold rkM
    by_cases hb : bst T (n - (f + 1)) T.length 0 = T.length
    · rw [if_pos hb]
      have h2 := up_ok h (all_zero hb)
      exact ih T r k (by omega) hT (by rw [show n - f = n - (f + 1) + 1 by omega]; exact h2)
    · have hb' : bst T (n - (f + 1)) T.length 0 < T.length := by have := bst_bd T (n - (f + 1)) T.length 0; omega
      obtain ⟨e1, e2⟩ := pick_same h hc hb'
      have hv := bst_at T (n - (f + 1)) T.length 0 (by omega)
      rw [if_neg hb]
      obtain ⟨q, rfl⟩ : ∃ q, k = q + 1 := ⟨k - 1, by omega⟩
      unfold rkI
      rw [← hT, e2, e1, if_neg (by omega)]
      have hn := next_ok hp h hb' hc hv
      exact ih _ _ _ (by omega) (by rw [nxtR_len]; omega) (by rw [show n - f = n - (f + 1) + 1 by omega]; exact hn)
theorem rkI_bd (p : Int) (n k : Nat) : ∀ (T : List (List Int)) (r : Nat), r ≤ rkI p n k T r ∧ rkI p n k T r ≤ r + k := by
  induction k with
  | zero => intro T r; exact ⟨Nat.le_refl _, Nat.le_refl _⟩
  | succ k ih =>
    intro T r
    unfold rkI
    split
    · omega
    · have := ih (nxtR p n (ff (rw' T (lst T (k + 1)))) (lst T (k + 1)) T) (r + 1)
      omega
end Go.Proofs.YtopenojociafaaaDoor
namespace Go.Proofs.YtopenojociafaaaDoor
open Go.RowKit
set_option linter.unusedVariables false
set_option linter.unusedSimpArgs false
theorem gen_red {P : Program} {c : Code} {Q : Exit → Act → World → Prop} {a : Act} {W : World} (S : World → Prop) (h : S W) (k : ∀ x, S x → c.wp P Q a x) : c.wp P Q a W := k W h
theorem Tbd.swap {w : World} {g1 g2 N n : Nat} {os : List Nat} {R : List (List Int)} (h : Tbd w g1 g2 N n os R) (a b : Nat) (ha : a < N) (hb : b < N) : Tbd ((w.setCell ⟨g2, a, none⟩ (.slice (some ⟨g1, os.getD b 0, none⟩) n n)).setCell ⟨g2, b, none⟩ (.slice (some ⟨g1, os.getD a 0, none⟩) n n)) g1 g2 N n ((os.set a (os.getD b 0)).set b (os.getD a 0)) ((R.set a (rw' R b)).set b (rw' R a)) := by
  obtain ⟨ns, x, y, c⟩ := h.mem
  refine ⟨h.ne, ns, ?_, ?_, c.swap a b ha hb⟩
  · exact (x.other (by simpa using h.ne.symm) _).other (by simpa using h.ne.symm) _
  · have := (y.set a (.slice (some ⟨g1, os.getD b 0, none⟩) n n)).set b (.slice (some ⟨g1, os.getD a 0, none⟩) n n)
    rwa [hdr_set, hdr_set] at this
theorem mul_bd' (f v : Int) (f0 : 0 ≤ f) (f1 : f ≤ 97) (v0 : 0 ≤ v) (v1 : v ≤ 97) : -9409 ≤ f * v ∧ f * v ≤ 9409 ∧ -9409 ≤ -f * v ∧ -f * v ≤ 9409 := by
  have h1 : f * v ≤ f * 97 := Int.mul_le_mul_of_nonneg_left v1 f0
  have h2 := Int.mul_nonneg f0 v0
  rw [Int.neg_mul]
  omega
theorem stF_bd (p : Int) (b : Nat) (f v : Int) (hp : 2 ≤ p) : 0 ≤ stF p b f v ∧ stF p b f v < p := ⟨Int.emod_nonneg _ (by omega), Int.emod_lt_of_pos _ (by omega)⟩
def RedPost (p : Int) (g1 g2 N n : Nat) (A : Int) (K : Nat) (B : Nat) (w : World) (e : Ending) (w' : World) : Prop := ∃ (k : Nat) (f : Int), e = .returned (.tuple #[.int .i64 k, .int .i64 f]) ∧ k ≤ N ∧ (k = N → A = f) ∧ (k < N → A = 0) ∧ k = K ∧ Below B w w'
set_option maxRecDepth 100000 in
set_option maxHeartbeats 16000000 in
theorem redI_any (p : Int) (hp : primeB p = true) (g1 g2 N n : Nat) (hN : N ≤ 1000) (hn : n ≤ 1000) (B : Nat) (hB1 : B ≤ g1) (hB2 : B ≤ g2) (os0 : List Nat) (R0 : List (List Int)) (hok : RowsP p n R0) (w : World) (h : Tbd w g1 g2 N n os0 R0) (hBw : B ≤ w.heap.size) :
    Calls Tryd.prog 39 #[.int .i64 p, .slice (some ⟨g2, 0, none⟩) N N] w (RedPost p g1 g2 N n (resI p n N R0 1) (rkI p n N R0 0) B w) := by
  obtain ⟨p2, p97⟩ := primeB_two hp
  obtain ⟨A, hA⟩ : ∃ A, resI p n N R0 1 = A := ⟨_, rfl⟩
  obtain ⟨K, hK⟩ : ∃ K, rkI p n N R0 0 = K := ⟨_, rfl⟩
  rw [hA, hK]
  have hff := Lib.hid (show ∀ (os : List Nat) (R : List (List Int)) (i o : Nat) (w : World), i < N → Tbd w g1 g2 N n os R → os.getD i 0 = o → Calls Tryd.prog 40 #[.slice (some ⟨g1, o, none⟩) n n] w fun e w' => e = .returned (.int .i64 (ff (rw' R i) : Nat)) ∧ w' = w from fun os R i o w hi hT ho => by
    subst ho
    exact ffI_any g1 (os.getD i 0) n (by omega) (rw' R i) (hT.rlen i hi) w (fun j hj => hT.num i j hi hj))
  have hpost := Lib.hid (show ∀ (k : Nat) (f : Int) (w' : World), k ≤ N → (k = N → A = f) → (k < N → A = 0) → k = K → Below B w w' → RedPost p g1 g2 N n A K B w (.returned (.tuple #[.int .i64 k, .int .i64 f])) w' from fun k f w' a b c d e => ⟨k, f, rfl, a, b, c, d, e⟩)
  have hpr := Lib.hid hp
  have nA := Lib.hid (show resI p n N R0 1 = A ∧ rkI p n N R0 0 = K from ⟨hA, hK⟩)
  have nOk := Lib.hid hok
  have hB1' := Lib.hid hB1
  have hB2' := Lib.hid hB2
  clear hok hp hA hK hB1 hB2
  go_enter Tryd.func39, Tryd.ntmps39
  go_wp2
  go_loopw [6, 7] (fun rk fc wr => ∃ (r : Nat) (f : Int) (os : List Nat) (R : List (List Int)), r ≤ N ∧ rk = .int .i64 r ∧ fc = .int .i64 f ∧ 0 ≤ f ∧ f ≤ 97 ∧ Tbd wr g1 g2 N n os R ∧ Hid (RowsP p n R) ∧ Hid (resI p n (N - r) (R.drop r) f = A ∧ rkI p n (N - r) (R.drop r) r = K) ∧ Below B w wr) (fun rk _ _ => ((N : Int) - intOf rk).toNat)
  case atStart => exact ⟨0, 1, os0, R0, Nat.zero_le _, rfl, rfl, by omega, by omega, h, nOk, Lib.hid (by rw [Nat.sub_zero, List.drop_zero]; exact nA.out), Below.refl _ _⟩
  case round =>
    clear h nOk nA
    obtain ⟨r, f, os, R, hr, rfl, rfl, fb0, fb1, hT, hok, hW, hB⟩ := hrel
    by_cases hrN : r < N
    · have rI : (r : Int) < (N : Int) := by omega
      have hlenR := hT.len.1
      have hlo := hT.len.2
      have hlt : Hid (∀ k, lst (R.drop r) (k + 1) = if ff (rw' R (r + k)) < ff (rw' R (r + lst (R.drop r) k)) then k else lst (R.drop r) k) := Lib.hid (fun k => by rw [lst, drop_get, drop_get])
      have hll := Lib.hid (lst_lt (R.drop r))
      have hdl : (R.drop r).length = N - r := by rw [List.length_drop, hlenR]
      obtain ⟨M, hM⟩ : ∃ M, N - r = M + 1 := ⟨N - r - 1, by omega⟩
      have hres : Hid ((A = if ff (rw' R (r + lst (R.drop r) (M + 1))) = n then 0 else resI p n M (nxtR p n (ff (rw' R (r + lst (R.drop r) (M + 1)))) (lst (R.drop r) (M + 1)) (R.drop r)) (stF p (lst (R.drop r) (M + 1)) f ((rw' R (r + lst (R.drop r) (M + 1))).getD (ff (rw' R (r + lst (R.drop r) (M + 1)))) 0))) ∧ (K = if ff (rw' R (r + lst (R.drop r) (M + 1))) = n then r else rkI p n M (nxtR p n (ff (rw' R (r + lst (R.drop r) (M + 1)))) (lst (R.drop r) (M + 1)) (R.drop r)) (r + 1))) := Lib.hid (by
        have := hW.out
        rw [hM, resI, rkI, drop_get] at this
        exact ⟨this.1.symm, this.2.symm⟩)
      have hfle := Lib.hid (show ∀ i, i < N → ff (rw' R i) ≤ n from fun i hi => by have := ff_le (rw' R i); rwa [hT.rlen i hi] at this)
      obtain ⟨T, hTT⟩ : ∃ T, R.drop r = T := ⟨_, rfl⟩
      rw [hTT] at hlt hll hres
      have hTT' := Lib.hid hTT
      clear hW hTT hdl
      go_wp2
      go_loopw [8, 9] (fun le i wj => ∃ k : Nat, k ≤ M + 1 ∧ i = .int .i64 ((r + k : Nat) : Int) ∧ le = .int .i64 ((r + lst T k : Nat) : Int) ∧ Tbd wj g1 g2 N n os R ∧ Below B w wj) (fun _ i _ => ((N : Int) - intOf i).toNat)
      case atStart => exact ⟨0, Nat.zero_le _, rfl, rfl, hT, hB⟩
      case round =>
        clear hT hB
        obtain ⟨k, hk, rfl, rfl, hT, hB⟩ := hrel
        by_cases hkM : k < M + 1
        · obtain ⟨i, hi⟩ : ∃ i, r + k = i := ⟨_, rfl⟩
          have hiN : i < N := by omega
          have iI : (i : Int) < (N : Int) := by omega
          have hlk : lst T k ≤ k := by
            by_cases h0 : 0 < k
            · have := hll.out k h0; omega
            · have : k = 0 := by omega
              subst this; simp [lst]
          obtain ⟨l, hl⟩ : ∃ l, r + lst T k = l := ⟨_, rfl⟩
          have hlN : l < N := by omega
          have lI : (l : Int) < (N : Int) := by omega
          have hst := hlt.out k
          rw [hi, hl] at hst
          rw [hi, hl]
          have hi' := Lib.hid hi
          have hl' := Lib.hid hl
          obtain ⟨o1, ho1⟩ : ∃ o, os.getD i 0 = o := ⟨_, rfl⟩
          obtain ⟨o2, ho2⟩ : ∃ o, os.getD l 0 = o := ⟨_, rfl⟩
          have hc := Lib.hid (show ∀ x : World, Tbd x g1 g2 N n os R → x.cell? ⟨g2, i, none⟩ = some (.slice (some ⟨g1, o1, none⟩) n n) ∧ x.cell? ⟨g2, l, none⟩ = some (.slice (some ⟨g1, o2, none⟩) n n) from fun x h => by
            have a := h.head i hiN
            have b := h.head l hlN
            rw [ho1] at a
            rw [ho2] at b
            exact ⟨a, b⟩)
          have hf1 := Lib.hid (fun w h => hff.out os R i o1 w hiN h ho1)
          have hf2 := Lib.hid (fun w h => hff.out os R l o2 w hlN h ho2)
          obtain ⟨F1, hF1⟩ : ∃ F, ff (rw' R i) = F := ⟨_, rfl⟩
          obtain ⟨F2, hF2⟩ : ∃ F, ff (rw' R l) = F := ⟨_, rfl⟩
          rw [hF1] at hf1 hst
          rw [hF2] at hf2 hst
          have hst' := Lib.hid hst
          clear hi hl hst ho1 ho2 hF1 hF2
          go_upto_region 7 with fail
          refine wp_region_st (fun x => Tbd x g1 g2 N n os R) [(true, 0), (true, 1), (true, 2), (true, 3), (true, 5), (true, 6), (true, 7), (true, 8), (false, 4), (false, 9)] 10 (by kernel_rfl) (by kernel_rfl) hT.drew ?_
          have hTd := hT.drew
          have hBd : Below B w { wr with drawn := wr.drawn + 1 } := hB.drew
          clear hT hB
          generalize ({ wr with drawn := wr.drawn + 1 } : World) = w3 at *
          simp only [List.map_cons, List.map_nil, opS'_mk, opN_zero, opN_succ, List.drop_succ_cons, List.drop_zero]
          (apply wpSt_read; · (intro wd hS K hK; clear hS; go_simp; exact hK))
          (apply wpSt_read; · (intro wd hS K hK; clear hS; go_simp; exact hK))
          (apply wpSt_read; · (intro wd hS K hK; clear hS; go_simp; exact hK))
          (apply wpSt_read; · (intro wd hS K hK; obtain ⟨d0, d1⟩ := hc.out wd hS; clear hS; go_simp; exact hK))
          (apply wpSt_read; · (intro wd hS K hK; clear hS; go_simp; exact hK))
          (apply wpSt_read; · (intro wd hS K hK; clear hS; go_simp; exact hK))
          (apply wpSt_read; · (intro wd hS K hK; clear hS; go_simp; exact hK))
          (apply wpSt_read; · (intro wd hS K hK; obtain ⟨d0, d1⟩ := hc.out wd hS; clear hS; go_simp; exact hK))
          refine wpSt_keep (fun K hK => ?_)
          go_wp2_with (first
            | (go_at_call 40; ((with_reducible refine (hf1.out w3 hTd).mono ?_); rintro e w4 ⟨rfl, rfl⟩)))
          refine hK _ _ hTd rfl ?_
          clear hK K
          refine wpSt_keep (fun K hK => ?_)
          go_wp2_with (first
            | (go_at_call 40; ((with_reducible refine (hf2.out _ hTd).mono ?_); rintro e w5 ⟨rfl, rfl⟩)))
          refine hK _ _ hTd rfl ?_
          clear hK K
          refine wpSt_nil ?_
          by_cases hlt2 : F1 < F2
          · have e1 := Lib.hid (show lst T (k + 1) = k by rw [hst'.out, if_pos hlt2])
            have fI : (F1 : Int) < (F2 : Int) := by omega
            go_wp2
            go_roundw
            case rel => exact ⟨k + 1, by omega, by rw [show ((r + (k + 1) : Nat) : Int) = (i : Int) + 1 by have := hi'.out; omega], by rw [e1.out, hi'.out], hTd, hBd⟩
            case measure => simp [intOf]; omega
          · have e1 := Lib.hid (show lst T (k + 1) = lst T k by rw [hst'.out, if_neg hlt2])
            have fI : ¬ (F1 : Int) < (F2 : Int) := by omega
            go_wp2
            go_roundw
            case rel => exact ⟨k + 1, by omega, by rw [show ((r + (k + 1) : Nat) : Int) = (i : Int) + 1 by have := hi'.out; omega], by rw [e1.out, hl'.out], hTd, hBd⟩
            case measure => simp [intOf]; omega
        · obtain rfl : k = M + 1 := by omega
          have hlM := hll.out (M + 1) (by omega)
          obtain ⟨b', hb'⟩ : ∃ b', lst T (M + 1) = b' := ⟨_, rfl⟩
          rw [hb'] at hlM hres
          simp only [hb']
          obtain ⟨b, hbb⟩ : ∃ b, r + b' = b := ⟨_, rfl⟩
          have hbN : b < N := by omega
          have bI : (b : Int) < (N : Int) := by omega
          rw [hbb] at hres
          simp only [hbb]
          have hplle := hfle.out b hbN
          have hownl := hT.rlen b hbN
          have hffb := Lib.hid (fun o w h ho => hff.out os R b o w hbN h ho)
          have hat := ff_at (rw' R b)
          rw [hownl] at hat
          have hfin0 := fin_eq (N := N) (n := n) (r := r) (b := b') (pl := ff (rw' R b)) (R := R) hpr.out hok.out hlenR (by omega)
          rw [hbb, hTT'.out] at hfin0
          have hobd := hok.out.bd b
          obtain ⟨own, hownn⟩ : ∃ x, rw' R b = x := ⟨_, rfl⟩
          rw [hownn] at hres hplle hownl hffb hat hfin0 hobd
          obtain ⟨pl, hpl⟩ : ∃ x, ff own = x := ⟨_, rfl⟩
          rw [hpl] at hres hplle hffb hat hfin0
          obtain ⟨ob, hob⟩ : ∃ x, os.getD b 0 = x := ⟨_, rfl⟩
          have hcb := hT.head b hbN
          rw [hob] at hcb
          have hfb := Lib.hid (fun w h => hffb.out ob w h hob)
          have plI : (pl : Int) ≤ (n : Int) := by omega
          have hbr : b = r ↔ b' = 0 := by omega
          have kN : ((r + (M + 1) : Nat) : Int) = (N : Int) := by omega
          rw [kN]
          have hres2 := Lib.hid hres
          have hbr' := Lib.hid hbr
          have hob' := Lib.hid hob
          have hbb' := Lib.hid hbb
          have hownn' := Lib.hid hownn
          have hfin1 := Lib.hid hfin0
          have hobd' := Lib.hid hobd
          have hat' := Lib.hid hat
          clear hffb hb' hbb hlt hll hlM hpl hres hbr hob hownn hfin0 hobd hat hff kN
          by_cases hpe : pl = n
          · have plE : ((pl : Int) == (n : Int)) = true := by simp; omega
            have hA0 := Lib.hid (show A = 0 ∧ r = K from ⟨by rw [hres2.out.out.1, if_pos hpe], by rw [hres2.out.out.2, if_pos hpe]⟩)
            clear hat' hobd' hfin1 hres2 hpe
            go_wp2_with (first
              | (go_at_call 40; ((with_reducible refine (hfb.out _ hT).mono ?_); rintro e w4 ⟨rfl, rfl⟩)))
            go_ret2
            exact hpost.out _ _ _ hr (fun h => by omega) (fun _ => hA0.out.1) hA0.out.2 hB
          · have hpln : pl < n := by omega
            have plE : ((pl : Int) == (n : Int)) = false := by simp; omega
            have hv0 := hat'.out hpln
            have hvb := hobd'.out pl (by omega) hpln
            have hfin2 := hfin1.out hpln
            have hresN0 := hres2.out
            rw [if_neg hpe, if_neg hpe] at hresN0
            obtain ⟨v, hv⟩ : ∃ x, own.getD pl 0 = x := ⟨_, rfl⟩
            rw [hv] at hv0 hvb hfin2 hresN0
            have hrc := rcp_pos p v hpr.out (by omega) hvb.2
            have f2b := stF_bd p b' f v p2
            have hsd : stF p b' f v = (if b' = 0 then f else -f) * v % p := rfl
            obtain ⟨f2, hf22⟩ : ∃ x, stF p b' f v = x := ⟨_, rfl⟩
            rw [hf22] at f2b hsd hresN0
            have hlens : (swp R r b).length = N := by rw [swp_len]; exact hlenR
            have hoks := swp_ok hok.out r b (by omega) (by omega)
            have howns : rw' (swp R r b) r = own := by
              rw [swp_get _ _ _ _ (by omega) (by omega), ← hownn'.out]
              by_cases e : r = b
              · rw [if_pos e, e]
              · rw [if_neg e, if_pos rfl]
            have hfv := mul_bd' f v fb0 fb1 hvb.1 (by omega)
            obtain ⟨fv1, fv2, fv3, fv4⟩ := hfv
            clear hat' hobd' hfin1 hres2 hpe hv0 hf22
            by_cases hbe : b = r
            · have bE : ((b : Int) == (r : Int)) = true := by simp; omega
              rw [if_pos (hbr'.out.1 hbe)] at hsd
              have hsw : swp R r b = R := by unfold swp; rw [if_pos hbe]
              rw [hsw] at hfin2 hlens hoks howns
              clear hbr' hownn' hsw hTT' hbe
              go_upto_region 11 with (first
                | (go_at_call 40; ((with_reducible refine (hfb.out _ hT).mono ?_); rintro e w4 ⟨rfl, rfl⟩)))
              clear hfb hcb
              have hf2 : f * v % p = f2 := hsd.symm
              have hresN := hresN0.out
              have hown := howns
              have hok1 := hoks
              have hlen1 := hlens
              have hfin := hfin2
              clear hsd hresN0 howns hoks hlens hfin2 hok hfle hlenR fv3 fv4
              obtain ⟨os1, hos1⟩ : ∃ x, os = x := ⟨_, rfl⟩
              obtain ⟨R1, hR1⟩ : ∃ x, R = x := ⟨_, rfl⟩
              rw [hR1] at hown hok1 hlen1 hfin hT
              rw [hos1] at hT
              clear hR1 hos1 hob' hbb' hpost hpr
              obtain ⟨o, hoo⟩ : ∃ o, os1.getD r 0 = o := ⟨_, rfl⟩
              have hcr := Lib.hid (show ∀ x : World, Tbd x g1 g2 N n os1 R1 → x.cell? ⟨g2, r, none⟩ = some (.slice (some ⟨g1, o, none⟩) n n) ∧ x.cell? ⟨g1, o + pl, none⟩ = some (.int .i64 v) from fun x h => by
                have a := h.head r hrN
                have b := h.num r pl hrN hpln
                rw [hoo] at a b
                rw [hown, hv] at b
                exact ⟨a, b⟩)
              have hsc := Lib.hid (fun w h => sclI_any p (rcp p v) p2 p97 (by omega) hrc.2 g1 g2 N n os1 R1 (by omega) r hrN (fun j hj => hok1.bd r j (by omega) hj) B w h hB1'.out o hoo)
              rw [hown] at hsc
              have hok2 : RowsP p n (R1.set r (scl p (rcp p v) own n)) := set_ok hok1 r _ (by omega) (by rw [scl_len]; exact hownl) (fun j hj => scl_bds _ _ _ _ p2 hownl j hj)
              have hlen2 : (R1.set r (scl p (rcp p v) own n)).length = N := by rw [List.length_set]; exact hlen1
              obtain ⟨R2, hR2⟩ : ∃ x, R1.set r (scl p (rcp p v) own n) = x := ⟨_, rfl⟩
              rw [hR2] at hsc hok2 hlen2 hfin
              have hrcp := Lib.hid (fun w1 => (rcpI_any p v w1 p2 p97 (by omega) (by omega)).mono fun e w' h => (show e = .returned (.int .i64 (rcp p v)) ∧ w' = w1 from ⟨h.1, h.2.symm⟩))
              obtain ⟨rc, hrcc⟩ : ∃ x, rcp p v = x := ⟨_, rfl⟩
              rw [hrcc] at hsc hrcp hrc
              have hmf := Lib.hid (fun w1 => (remI_any p (f * v) w1 p2 p97 (by omega) (by omega)).mono fun e w' h => (show e = .returned (.int .i64 f2) ∧ w' = w1 from ⟨by rw [← hf2]; exact h.1, h.2.symm⟩))
              have hok2' := Lib.hid hok2
              have hfin' := Lib.hid hfin
              have hres' := Lib.hid hresN
              have hoo' := Lib.hid hoo
              have hpI : (pl : Int) < (n : Int) := by omega
              clear hok2 hfin hresN hoo hown hR2 hrcc hf2 hok1
              obtain ⟨d0, d1⟩ := hcr.out _ hT
              go_upto_region 15 with (first
                | (go_at_call 37; ((with_reducible refine (hmf.out _).mono ?_); rintro e w4 ⟨rfl, rfl⟩)))
              clear d0 d1
              refine wp_region_st (fun x => Tbd x g1 g2 N n os1 R1) [(true, 0), (true, 1), (true, 2), (true, 3), (true, 4), (true, 5), (true, 6), (true, 7), (true, 8), (true, 9), (true, 10), (true, 11), (true, 12), (false, 13)] 14 (by kernel_rfl) (by kernel_rfl) hT.drew ?_
              have hTd := hT.drew
              have hBd : Below B w { w4 with drawn := w4.drawn + 1 } := hB.drew
              clear hT hB
              generalize ({ w4 with drawn := w4.drawn + 1 } : World) = w5 at *
              simp only [List.map_cons, List.map_nil, opS'_mk, opN_zero, opN_succ, List.drop_succ_cons, List.drop_zero]
              (apply wpSt_read; · (intro wd hS K hK; clear hS; go_simp; exact hK))
              (apply wpSt_read; · (intro wd hS K hK; clear hS; go_simp; exact hK))
              (apply wpSt_read; · (intro wd hS K hK; clear hS; go_simp; exact hK))
              (apply wpSt_read; · (intro wd hS K hK; clear hS; go_simp; exact hK))
              (apply wpSt_read; · (intro wd hS K hK; obtain ⟨d0, d1⟩ := hcr.out wd hS; clear hS; go_simp; exact hK))
              (apply wpSt_read; · (intro wd hS K hK; clear hS; go_simp; exact hK))
              (apply wpSt_read; · (intro wd hS K hK; clear hS; go_simp; exact hK))
              (apply wpSt_read; · (intro wd hS K hK; clear hS; go_simp; exact hK))
              (apply wpSt_read; · (intro wd hS K hK; clear hS; go_simp; exact hK))
              (apply wpSt_read; · (intro wd hS K hK; obtain ⟨d0, d1⟩ := hcr.out wd hS; clear hS; go_simp; exact hK))
              (apply wpSt_read; · (intro wd hS K hK; clear hS; go_simp; exact hK))
              (apply wpSt_read; · (intro wd hS K hK; clear hS; go_simp; exact hK))
              (apply wpSt_read; · (intro wd hS K hK; obtain ⟨d0, d1⟩ := hcr.out wd hS; clear hS; go_simp; exact hK))
              refine wpSt_keep (fun K hK => ?_)
              go_wp2_with (first
                | (go_at_call 62; ((with_reducible refine (hrcp.out _).mono ?_); rintro e w6 ⟨rfl, rfl⟩)))
              refine hK _ _ hTd rfl ?_
              clear hK K
              refine wpSt_nil ?_
              go_wp2_with (first
                | (go_at_call 61; ((with_reducible refine (hsc.out _ hTd).mono ?_); rintro e w7 ⟨rfl, hT7, hB7⟩)))
              have b7 : Below B w w7 := hBd.trans hB7
              clear hTd hBd hB7 hsc hrcp hmf hcr
              go_loopw [95] (fun i wj => ∃ k : Nat, k ≤ N ∧ i = .int .i64 k ∧ Tbd wj g1 g2 N n os1 (upd p n r pl R2 k) ∧ Below B w wj) (fun i _ => ((N : Int) - intOf i).toNat)
              case atStart => exact ⟨0, Nat.zero_le _, rfl, hT7, b7⟩
              case round =>
                clear hT7 b7
                obtain ⟨k, hk, rfl, hT, hB⟩ := hrel
                by_cases hkN : k < N
                · have kI : (k : Int) < (N : Int) := by omega
                  have hus : upd p n r pl R2 (k + 1) = if k = r then upd p n r pl R2 k else (upd p n r pl R2 k).set k (adr p (-((rw' (upd p n r pl R2 k) k).getD pl 0)) (rw' (upd p n r pl R2 k) r) (rw' (upd p n r pl R2 k) k) n) := rfl
                  by_cases hkr : k = r
                  · rw [if_pos hkr] at hus
                    have hus' := Lib.hid hus
                    have kE : (k : Int) = (r : Int) := by omega
                    have kE2 : ((k : Int) == (r : Int)) = true := by simpa using kE
                    clear hus kE
                    rw [← hus'.out] at hT
                    have K1 := Lib.hid hT
                    clear hT
                    go_wp2
                    go_roundw
                    case rel => exact ⟨k + 1, by omega, by go_num, K1.out, hB⟩
                    case measure => simp [intOf]; omega
                  · rw [if_neg hkr] at hus
                    have kE2 : ((k : Int) == (r : Int)) = false := by simp; omega
                    have hoku := upd_ok p2 hok2'.out r pl k (by omega)
                    have ub := hoku.bd k pl (by rw [upd_len]; omega) hpln
                    obtain ⟨x, hx⟩ : ∃ x, (rw' (upd p n r pl R2 k) k).getD pl 0 = x := ⟨_, rfl⟩
                    rw [hx] at hus ub
                    obtain ⟨ok, hok'⟩ : ∃ q, os1.getD k 0 = q := ⟨_, rfl⟩
                    have hck := Lib.hid (show ∀ y : World, Tbd y g1 g2 N n os1 (upd p n r pl R2 k) → y.cell? ⟨g2, k, none⟩ = some (.slice (some ⟨g1, ok, none⟩) n n) ∧ y.cell? ⟨g2, r, none⟩ = some (.slice (some ⟨g1, o, none⟩) n n) ∧ y.cell? ⟨g1, ok + pl, none⟩ = some (.int .i64 x) from fun y h => by
                      have a := h.head k hkN
                      have b := h.head r hrN
                      have c := h.num k pl hkN hpln
                      rw [hok'] at a c
                      rw [hoo'.out] at b
                      rw [hx] at c
                      exact ⟨a, b, c⟩)
                    have had := Lib.hid (fun w h => adrI_any p (-x) p2 p97 (by omega) (by omega) g1 g2 N n os1 (upd p n r pl R2 k) (by omega) k r hkN hrN hkr (fun i hi j hj => hoku.bd i j (by rw [upd_len]; omega) hj) B w h hB1'.out ok o hok' hoo'.out)
                    rw [← hus] at had
                    obtain ⟨ub0, ub1⟩ := ub
                    clear hus hoku hx hok'
                    go_upto_region 20 with fail
                    refine wp_region_st (fun x => Tbd x g1 g2 N n os1 (upd p n r pl R2 k)) [(true, 0), (true, 1), (true, 2), (true, 3), (true, 4), (true, 5), (true, 6), (true, 7), (true, 8), (true, 9), (true, 10), (true, 11), (true, 12), (true, 13), (true, 14), (true, 15), (true, 16)] 17 (by kernel_rfl) (by kernel_rfl) hT.drew ?_
                    have hTd := hT.drew
                    have hBd : Below B w { wr with drawn := wr.drawn + 1 } := hB.drew
                    clear hT hB
                    generalize ({ wr with drawn := wr.drawn + 1 } : World) = w8 at *
                    simp only [List.map_cons, List.map_nil, opS'_mk, opN_zero, opN_succ, List.drop_succ_cons, List.drop_zero]
                    (apply wpSt_read; · (intro wd hS K hK; clear hS; go_simp; exact hK))
                    (apply wpSt_read; · (intro wd hS K hK; clear hS; go_simp; exact hK))
                    (apply wpSt_read; · (intro wd hS K hK; clear hS; go_simp; exact hK))
                    (apply wpSt_read; · (intro wd hS K hK; clear hS; go_simp; exact hK))
                    (apply wpSt_read; · (intro wd hS K hK; obtain ⟨d0, d1, d2⟩ := hck.out wd hS; clear hS; go_simp; exact hK))
                    (apply wpSt_read; · (intro wd hS K hK; clear hS; go_simp; exact hK))
                    (apply wpSt_read; · (intro wd hS K hK; clear hS; go_simp; exact hK))
                    (apply wpSt_read; · (intro wd hS K hK; clear hS; go_simp; exact hK))
                    (apply wpSt_read; · (intro wd hS K hK; obtain ⟨d0, d1, d2⟩ := hck.out wd hS; clear hS; go_simp; exact hK))
                    (apply wpSt_read; · (intro wd hS K hK; clear hS; go_simp; exact hK))
                    (apply wpSt_read; · (intro wd hS K hK; clear hS; go_simp; exact hK))
                    (apply wpSt_read; · (intro wd hS K hK; clear hS; go_simp; exact hK))
                    (apply wpSt_read; · (intro wd hS K hK; obtain ⟨d0, d1, d2⟩ := hck.out wd hS; clear hS; go_simp; exact hK))
                    (apply wpSt_read; · (intro wd hS K hK; clear hS; go_simp; exact hK))
                    (apply wpSt_read; · (intro wd hS K hK; clear hS; go_simp; exact hK))
                    (apply wpSt_read; · (intro wd hS K hK; obtain ⟨d0, d1, d2⟩ := hck.out wd hS; clear hS; go_simp; exact hK))
                    (apply wpSt_read; · (intro wd hS K hK; clear hS; go_simp; exact hK))
                    refine wpSt_nil ?_
                    go_wp2_with (first
                      | (go_at_call 63; ((with_reducible refine (had.out _ hTd).mono ?_); rintro e w9 ⟨rfl, hT9, hB9⟩)))
                    go_roundw
                    case rel => exact ⟨k + 1, by omega, by go_num, hT9, hBd.trans hB9⟩
                    case measure => simp [intOf]; omega
                · obtain rfl : k = N := by omega
                  have hok3 := Lib.hid (upd_ok p2 hok2'.out r pl k (by omega))
                  have hr3 := Lib.hid (show resI p n (k - (r + 1)) ((upd p n r pl R2 k).drop (r + 1)) f2 = A ∧ rkI p n (k - (r + 1)) ((upd p n r pl R2 k).drop (r + 1)) (r + 1) = K from ⟨by rw [hfin'.out, show k - (r + 1) = M by omega, hres'.out.1], by rw [hfin'.out, show k - (r + 1) = M by omega, hres'.out.2]⟩)
                  clear hok2' hfin' hres'
                  go_wp2
                  go_roundw
                  case rel => exact ⟨r + 1, f2, os1, _, by omega, by go_num, rfl, f2b.1, by omega, hT, hok3, hr3, hB⟩
                  case measure => simp [intOf]; omega
            · have bE : ((b : Int) == (r : Int)) = false := by simp; omega
              rw [if_neg (fun h => hbe (hbr'.out.2 h))] at hsd
              have hsw : swp R r b = (R.set r (rw' R b)).set b (rw' R r) := by unfold swp; rw [if_neg hbe]
              obtain ⟨or, hor⟩ : ∃ x, os.getD r 0 = x := ⟨_, rfl⟩
              have hor' := Lib.hid hor
              have hbe' := Lib.hid hbe
              clear hbr' hownn' hTT' hbe hor
              go_upto_region 12 with (first
                | (go_at_call 40; ((with_reducible refine (hfb.out _ hT).mono ?_); rintro e w4 ⟨rfl, rfl⟩)))
              have ccr := hT.head r hrN
              rw [hor'.out] at ccr
              have ff1 := hT.free2 r
              have ff2 := hT.free2 b
              have ff3 : (w4.setCell ⟨g2, r, none⟩ (.slice (some ⟨g1, ob, none⟩) n n)).frozen? ⟨g2, b, none⟩ = false := by
                obtain ⟨ns, x, y, c⟩ := hT.mem
                exact (y.set r _).free b
              have cc3 : (w4.setCell ⟨g2, r, none⟩ (.slice (some ⟨g1, ob, none⟩) n n)).cell? ⟨g2, b, none⟩ = some (.slice (some ⟨g1, ob, none⟩) n n) := by
                obtain ⟨ns, x, y, c⟩ := hT.mem
                rw [(y.set r _).cell b, Array.getElem?_setIfInBounds_ne (fun e => hbe'.out e.symm), ← y.cell b]
                exact hcb
              have hTs := Lib.hid (show Tbd ((w4.setCell ⟨g2, r, none⟩ (.slice (some ⟨g1, ob, none⟩) n n)).setCell ⟨g2, b, none⟩ (.slice (some ⟨g1, or, none⟩) n n)).drew g1 g2 N n ((os.set r ob).set b or) (swp R r b) from by
                have := (hT.swap r b hrN hbN).drew
                rw [hob'.out, hor'.out, ← hsw] at this
                exact this)
              have hBs := Lib.hid (show Below B w ((w4.setCell ⟨g2, r, none⟩ (.slice (some ⟨g1, ob, none⟩) n n)).setCell ⟨g2, b, none⟩ (.slice (some ⟨g1, or, none⟩) n n)).drew from ((hB.setCell (p := ⟨g2, r, none⟩) hB2'.out _).setCell (p := ⟨g2, b, none⟩) hB2'.out _).drew)
              clear hfb hT hB hsw
              go_region
              have hT := hTs.out
              have hB := hBs.out
              clear hTs hBs ff1 ff2 ff3 cc3 ccr hcb
              generalize ((w4.setCell ⟨g2, r, none⟩ (.slice (some ⟨g1, ob, none⟩) n n)).setCell ⟨g2, b, none⟩ (.slice (some ⟨g1, or, none⟩) n n)).drew = wz at *
              have hf2 : -f * v % p = f2 := hsd.symm
              have hresN := hresN0.out
              have hown := howns
              have hok1 := hoks
              have hlen1 := hlens
              have hfin := hfin2
              clear hsd hresN0 howns hoks hlens hfin2 hok hfle hlenR fv1 fv2
              obtain ⟨os1, hos1⟩ : ∃ x, (os.set r ob).set b or = x := ⟨_, rfl⟩
              obtain ⟨R1, hR1⟩ : ∃ x, swp R r b = x := ⟨_, rfl⟩
              rw [hR1] at hown hok1 hlen1 hfin hT
              rw [hos1] at hT
              clear hR1 hos1 hob' hbb' hpost hpr hor' hbe'
              go_upto_region 14 with fail
              obtain ⟨o, hoo⟩ : ∃ o, os1.getD r 0 = o := ⟨_, rfl⟩
              have hcr := Lib.hid (show ∀ x : World, Tbd x g1 g2 N n os1 R1 → x.cell? ⟨g2, r, none⟩ = some (.slice (some ⟨g1, o, none⟩) n n) ∧ x.cell? ⟨g1, o + pl, none⟩ = some (.int .i64 v) from fun x h => by
                have a := h.head r hrN
                have b := h.num r pl hrN hpln
                rw [hoo] at a b
                rw [hown, hv] at b
                exact ⟨a, b⟩)
              have hsc := Lib.hid (fun w h => sclI_any p (rcp p v) p2 p97 (by omega) hrc.2 g1 g2 N n os1 R1 (by omega) r hrN (fun j hj => hok1.bd r j (by omega) hj) B w h hB1'.out o hoo)
              rw [hown] at hsc
              have hok2 : RowsP p n (R1.set r (scl p (rcp p v) own n)) := set_ok hok1 r _ (by omega) (by rw [scl_len]; exact hownl) (fun j hj => scl_bds _ _ _ _ p2 hownl j hj)
              have hlen2 : (R1.set r (scl p (rcp p v) own n)).length = N := by rw [List.length_set]; exact hlen1
              obtain ⟨R2, hR2⟩ : ∃ x, R1.set r (scl p (rcp p v) own n) = x := ⟨_, rfl⟩
              rw [hR2] at hsc hok2 hlen2 hfin
              have hrcp := Lib.hid (fun w1 => (rcpI_any p v w1 p2 p97 (by omega) (by omega)).mono fun e w' h => (show e = .returned (.int .i64 (rcp p v)) ∧ w' = w1 from ⟨h.1, h.2.symm⟩))
              obtain ⟨rc, hrcc⟩ : ∃ x, rcp p v = x := ⟨_, rfl⟩
              rw [hrcc] at hsc hrcp hrc
              have hmf := Lib.hid (fun w1 => (remI_any p (-f * v) w1 p2 p97 (by omega) (by omega)).mono fun e w' h => (show e = .returned (.int .i64 f2) ∧ w' = w1 from ⟨by rw [← hf2]; exact h.1, h.2.symm⟩))
              have hok2' := Lib.hid hok2
              have hfin' := Lib.hid hfin
              have hres' := Lib.hid hresN
              have hoo' := Lib.hid hoo
              have hpI : (pl : Int) < (n : Int) := by omega
              clear hok2 hfin hresN hoo hown hR2 hrcc hf2 hok1
              obtain ⟨d0, d1⟩ := hcr.out _ hT
              go_upto_region 15 with (first
                | (go_at_call 37; ((with_reducible refine (hmf.out _).mono ?_); rintro e w4 ⟨rfl, rfl⟩)))
              clear d0 d1
              refine wp_region_st (fun x => Tbd x g1 g2 N n os1 R1) [(true, 0), (true, 1), (true, 2), (true, 3), (true, 4), (true, 5), (true, 6), (true, 7), (true, 8), (true, 9), (true, 10), (true, 11), (true, 12), (false, 13)] 14 (by kernel_rfl) (by kernel_rfl) hT.drew ?_
              have hTd := hT.drew
              have hBd : Below B w { w4 with drawn := w4.drawn + 1 } := hB.drew
              clear hT hB
              generalize ({ w4 with drawn := w4.drawn + 1 } : World) = w5 at *
              simp only [List.map_cons, List.map_nil, opS'_mk, opN_zero, opN_succ, List.drop_succ_cons, List.drop_zero]
              (apply wpSt_read; · (intro wd hS K hK; clear hS; go_simp; exact hK))
              (apply wpSt_read; · (intro wd hS K hK; clear hS; go_simp; exact hK))
              (apply wpSt_read; · (intro wd hS K hK; clear hS; go_simp; exact hK))
              (apply wpSt_read; · (intro wd hS K hK; clear hS; go_simp; exact hK))
              (apply wpSt_read; · (intro wd hS K hK; obtain ⟨d0, d1⟩ := hcr.out wd hS; clear hS; go_simp; exact hK))
              (apply wpSt_read; · (intro wd hS K hK; clear hS; go_simp; exact hK))
              (apply wpSt_read; · (intro wd hS K hK; clear hS; go_simp; exact hK))
              (apply wpSt_read; · (intro wd hS K hK; clear hS; go_simp; exact hK))
              (apply wpSt_read; · (intro wd hS K hK; clear hS; go_simp; exact hK))
              (apply wpSt_read; · (intro wd hS K hK; obtain ⟨d0, d1⟩ := hcr.out wd hS; clear hS; go_simp; exact hK))
              (apply wpSt_read; · (intro wd hS K hK; clear hS; go_simp; exact hK))
              (apply wpSt_read; · (intro wd hS K hK; clear hS; go_simp; exact hK))
              (apply wpSt_read; · (intro wd hS K hK; obtain ⟨d0, d1⟩ := hcr.out wd hS; clear hS; go_simp; exact hK))
              refine wpSt_keep (fun K hK => ?_)
              go_wp2_with (first
                | (go_at_call 62; ((with_reducible refine (hrcp.out _).mono ?_); rintro e w6 ⟨rfl, rfl⟩)))
              refine hK _ _ hTd rfl ?_
              clear hK K
              refine wpSt_nil ?_
              go_wp2_with (first
                | (go_at_call 61; ((with_reducible refine (hsc.out _ hTd).mono ?_); rintro e w7 ⟨rfl, hT7, hB7⟩)))
              have b7 : Below B w w7 := hBd.trans hB7
              clear hTd hBd hB7 hsc hrcp hmf hcr
              go_loopw [95] (fun i wj => ∃ k : Nat, k ≤ N ∧ i = .int .i64 k ∧ Tbd wj g1 g2 N n os1 (upd p n r pl R2 k) ∧ Below B w wj) (fun i _ => ((N : Int) - intOf i).toNat)
              case atStart => exact ⟨0, Nat.zero_le _, rfl, hT7, b7⟩
              case round =>
                clear hT7 b7
                obtain ⟨k, hk, rfl, hT, hB⟩ := hrel
                by_cases hkN : k < N
                · have kI : (k : Int) < (N : Int) := by omega
                  have hus : upd p n r pl R2 (k + 1) = if k = r then upd p n r pl R2 k else (upd p n r pl R2 k).set k (adr p (-((rw' (upd p n r pl R2 k) k).getD pl 0)) (rw' (upd p n r pl R2 k) r) (rw' (upd p n r pl R2 k) k) n) := rfl
                  by_cases hkr : k = r
                  · rw [if_pos hkr] at hus
                    have hus' := Lib.hid hus
                    have kE : (k : Int) = (r : Int) := by omega
                    have kE2 : ((k : Int) == (r : Int)) = true := by simpa using kE
                    clear hus kE
                    rw [← hus'.out] at hT
                    have K1 := Lib.hid hT
                    clear hT
                    go_wp2
                    go_roundw
                    case rel => exact ⟨k + 1, by omega, by go_num, K1.out, hB⟩
                    case measure => simp [intOf]; omega
                  · rw [if_neg hkr] at hus
                    have kE2 : ((k : Int) == (r : Int)) = false := by simp; omega
                    have hoku := upd_ok p2 hok2'.out r pl k (by omega)
                    have ub := hoku.bd k pl (by rw [upd_len]; omega) hpln
                    obtain ⟨x, hx⟩ : ∃ x, (rw' (upd p n r pl R2 k) k).getD pl 0 = x := ⟨_, rfl⟩
                    rw [hx] at hus ub
                    obtain ⟨ok, hok'⟩ : ∃ q, os1.getD k 0 = q := ⟨_, rfl⟩
                    have hck := Lib.hid (show ∀ y : World, Tbd y g1 g2 N n os1 (upd p n r pl R2 k) → y.cell? ⟨g2, k, none⟩ = some (.slice (some ⟨g1, ok, none⟩) n n) ∧ y.cell? ⟨g2, r, none⟩ = some (.slice (some ⟨g1, o, none⟩) n n) ∧ y.cell? ⟨g1, ok + pl, none⟩ = some (.int .i64 x) from fun y h => by
                      have a := h.head k hkN
                      have b := h.head r hrN
                      have c := h.num k pl hkN hpln
                      rw [hok'] at a c
                      rw [hoo'.out] at b
                      rw [hx] at c
                      exact ⟨a, b, c⟩)
                    have had := Lib.hid (fun w h => adrI_any p (-x) p2 p97 (by omega) (by omega) g1 g2 N n os1 (upd p n r pl R2 k) (by omega) k r hkN hrN hkr (fun i hi j hj => hoku.bd i j (by rw [upd_len]; omega) hj) B w h hB1'.out ok o hok' hoo'.out)
                    rw [← hus] at had
                    obtain ⟨ub0, ub1⟩ := ub
                    clear hus hoku hx hok'
                    go_upto_region 20 with fail
                    refine wp_region_st (fun x => Tbd x g1 g2 N n os1 (upd p n r pl R2 k)) [(true, 0), (true, 1), (true, 2), (true, 3), (true, 4), (true, 5), (true, 6), (true, 7), (true, 8), (true, 9), (true, 10), (true, 11), (true, 12), (true, 13), (true, 14), (true, 15), (true, 16)] 17 (by kernel_rfl) (by kernel_rfl) hT.drew ?_
                    have hTd := hT.drew
                    have hBd : Below B w { wr with drawn := wr.drawn + 1 } := hB.drew
                    clear hT hB
                    generalize ({ wr with drawn := wr.drawn + 1 } : World) = w8 at *
                    simp only [List.map_cons, List.map_nil, opS'_mk, opN_zero, opN_succ, List.drop_succ_cons, List.drop_zero]
                    (apply wpSt_read; · (intro wd hS K hK; clear hS; go_simp; exact hK))
                    (apply wpSt_read; · (intro wd hS K hK; clear hS; go_simp; exact hK))
                    (apply wpSt_read; · (intro wd hS K hK; clear hS; go_simp; exact hK))
                    (apply wpSt_read; · (intro wd hS K hK; clear hS; go_simp; exact hK))
                    (apply wpSt_read; · (intro wd hS K hK; obtain ⟨d0, d1, d2⟩ := hck.out wd hS; clear hS; go_simp; exact hK))
                    (apply wpSt_read; · (intro wd hS K hK; clear hS; go_simp; exact hK))
                    (apply wpSt_read; · (intro wd hS K hK; clear hS; go_simp; exact hK))
                    (apply wpSt_read; · (intro wd hS K hK; clear hS; go_simp; exact hK))
                    (apply wpSt_read; · (intro wd hS K hK; obtain ⟨d0, d1, d2⟩ := hck.out wd hS; clear hS; go_simp; exact hK))
                    (apply wpSt_read; · (intro wd hS K hK; clear hS; go_simp; exact hK))
                    (apply wpSt_read; · (intro wd hS K hK; clear hS; go_simp; exact hK))
                    (apply wpSt_read; · (intro wd hS K hK; clear hS; go_simp; exact hK))
                    (apply wpSt_read; · (intro wd hS K hK; obtain ⟨d0, d1, d2⟩ := hck.out wd hS; clear hS; go_simp; exact hK))
                    (apply wpSt_read; · (intro wd hS K hK; clear hS; go_simp; exact hK))
                    (apply wpSt_read; · (intro wd hS K hK; clear hS; go_simp; exact hK))
                    (apply wpSt_read; · (intro wd hS K hK; obtain ⟨d0, d1, d2⟩ := hck.out wd hS; clear hS; go_simp; exact hK))
                    (apply wpSt_read; · (intro wd hS K hK; clear hS; go_simp; exact hK))
                    refine wpSt_nil ?_
                    go_wp2_with (first
                      | (go_at_call 63; ((with_reducible refine (had.out _ hTd).mono ?_); rintro e w9 ⟨rfl, hT9, hB9⟩)))
                    go_roundw
                    case rel => exact ⟨k + 1, by omega, by go_num, hT9, hBd.trans hB9⟩
                    case measure => simp [intOf]; omega
                · obtain rfl : k = N := by omega
                  have hok3 := Lib.hid (upd_ok p2 hok2'.out r pl k (by omega))
                  have hr3 := Lib.hid (show resI p n (k - (r + 1)) ((upd p n r pl R2 k).drop (r + 1)) f2 = A ∧ rkI p n (k - (r + 1)) ((upd p n r pl R2 k).drop (r + 1)) (r + 1) = K from ⟨by rw [hfin'.out, show k - (r + 1) = M by omega, hres'.out.1], by rw [hfin'.out, show k - (r + 1) = M by omega, hres'.out.2]⟩)
                  clear hok2' hfin' hres'
                  go_wp2
                  go_roundw
                  case rel => exact ⟨r + 1, f2, os1, _, by omega, by go_num, rfl, f2b.1, by omega, hT, hok3, hr3, hB⟩
                  case measure => simp [intOf]; omega
    · have e : r = N := by omega
      subst e
      have hend := Lib.hid (show A = f ∧ r = K by have := hW.out; rw [Nat.sub_self] at this; exact ⟨this.1.symm, this.2⟩)
      clear hT hW hok
      go_wp2
      go_ret2
      exact hpost.out _ _ _ (Nat.le_refl _) (fun _ => hend.out.1) (fun h => by omega) hend.out.2 hB
end Go.Proofs.YtopenojociafaaaDoor
namespace Go.Proofs.YtopenojociafaaaDoor
open Go.RowKit
set_option linter.unusedVariables false
set_option linter.unusedSimpArgs false
theorem resM_bd (p : Int) (n : Nat) (hp : 2 ≤ p) (f : Nat) : ∀ (T : List (List Int)) (d : Int), 0 ≤ d → d < p → 0 ≤ resM p n f T d ∧ resM p n f T d < p := by
  induction f with
  | zero => intro T d h0 h1; exact ⟨h0, h1⟩
  | succ f ih =>
    intro T d h0 h1
    rw [resM]
    split
    · exact ih _ _ (by omega) (by omega)
    · have := stF_bd p (bst T (n - (f + 1)) T.length 0) d ((rw' T (bst T (n - (f + 1)) T.length 0)).getD (n - (f + 1)) 0) hp
      exact ih _ _ this.1 this.2
end Go.Proofs.YtopenojociafaaaDoor
