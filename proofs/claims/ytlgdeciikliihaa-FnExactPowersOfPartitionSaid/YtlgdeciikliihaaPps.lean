/- PowersOfPartition: the model, and the law. -/
import Derived.Test.YtlgdeciikliihaaPpi
import Derived.Test.YtlgdeciikliihaaPrS
import Derived.Test.YtlgdeciikliihaaLawPw
import Derived.Test.YtlgdeciikliihaaPis
namespace Go.Proofs.Ytlgdeciikliihaa
open Go.RowKit Go.Lib
set_option linter.unusedVariables false
set_option linter.unusedSimpArgs false
set_option maxRecDepth 100000 in
set_option maxHeartbeats 8000000 in
theorem pwS_ok (N : Nat) (A : List Int) (h8 : A.length = 8) (hb : Bytes A) (hA : Nums A) (hd : isP N A = true) (M I : Nat) (hIM : I < M) (hM : M ≤ 16777216) (hq : pwP N A I = pwP N A M) (hdis : ∀ a b, a < b → b < M → pwP N A a ≠ pwP N A b) (w : World) :
    Calls Try.prog 8 #[.agg (dcells N A)] w (ResI [(I : Int) + 1, (M : Int) - I] 0 w) := by
  have hl := Lib.hid h8
  have hN := isP_n hd
  have h1 : 1 ≤ N := by omega
  have h4 : N ≤ 4 := by omega
  have hc := Lib.hid (fun w => isPS_any N A h8 hb w)
  rw [hd] at hc
  have hmk2 := Lib.hid (fun m w => mksQ N (pwP N A m) (pwP_len N A h8 h4 m) w)
  have hpr := Lib.hid (fun m w => timesPS_nat N (pwP N A m) A (pwP_len N A h8 h4 m) h8 (pwP_nums N A hA h4 m) hA w h1 h4)
  have hpl := Lib.hid (pwP_len N A h8 h4)
  have hE := Lib.hid (fun k m w => eqParts N N (pwP N A k) (pwP N A m) (pwP_len N A h8 h4 k) (pwP_len N A h8 h4 m) w)
  have hrd := Lib.hid (fun (x : World) base m g cap (h : RowQ x base (.slice (some ⟨g, 0, none⟩) m cap) (pls N A m)) k hk => pls_read h h8 h4 k hk)
  have hp8 := Lib.hid (pls_8 N A h8 h4)
  have h9 := Lib.hid (show ∀ k, (dcells N (pwP N A k)).toList.length = 9 from fun k => dl9 (pwP_len N A h8 h4 k))
  have hne := Lib.hid (show ∀ m, m ≤ M → ∃ r, r ≤ m ∧ (∀ i, i < r → pwP N A i ≠ pwP N A m) ∧ (m < M → r = m) ∧ (m = M → r = I ∧ pwP N A r = pwP N A m) from fun m hm => by
    by_cases h : m < M
    · exact ⟨m, Nat.le_refl _, fun i hi => hdis i m hi h, fun _ => rfl, fun e => by omega⟩
    · have e : m = M := by omega
      subst e
      exact ⟨I, by omega, fun i hi => by rw [← hq]; exact hdis i I hi hIM, fun h => by omega, fun _ => ⟨rfl, hq⟩⟩)
  have hm0 := mk0q
  have hm2 := fun a b => mk2i a b
  clear h8 hb hd hq hdis
  go_enter Try.func8, Try.ntmps8
  go_wp2_with (first
    | (refine wpList_load_row rfl 31 _ rfl _ rfl 31 _ (0, 0) _ (Own.new w _ _) Try.underlying31 rfl (rowP (d9 _ _ (hl.out))) ?_)
    | (go_at_call 27; ((with_reducible refine (hc.out _).mono ?_); rintro e w1 ⟨rfl, hB1⟩; have hO1 : Own w1 w.heap.size (dcells N A) 31 := (Own.new w _ _).below hB1 (by simp)))
    | (refine wpList_load_row rfl 31 _ rfl _ rfl 31 _ (0, 0) _ (hO1.alloc _) Try.underlying31 rfl (rowP (d9 _ _ (hl.out))) ?_)
    | (refine wpList_store_own rfl 31 _ _ rfl _ _ rfl rfl 31 _ (Own.at (w1.alloc (.cells #[] 31)) zp 31 (by simp)) (rowP (d9 _ _ (hl.out))) (z_eq8 (d9 _ _ hl.out)) (dcells_one _ _) ?_; intro w2 hO2 hN2))
  have b1 : Below w.heap.size w w1 := ((Below.refl _ w).alloc (Nat.le_refl _) _).trans (hB1.mono (by simp))
  have s1 : w.heap.size + 1 ≤ w1.heap.size := by have := hB1.size; simpa using this
  have nR : RowQ w2 (w.heap.size + 1) (.slice (some ⟨w1.heap.size, 0, none⟩) 0 0) (pls N A 0) := ((RowQ.new0 w1 (w.heap.size + 1) _ s1 rfl).alloc (.cells zp 31)).kept (fun j e => hN2.other j (by have e' : some w1.heap.size = some j := e; injection e' with e'; omega))
  have nO : Own w2 w.heap.size (dcells N A) 31 := (hN2.other w.heap.size (by omega)).trans ((hO1.alloc (.cells #[] 31)).alloc (.cells zp 31))
  have nB : Below w.heap.size w w2 := ((b1.alloc b1.size _).alloc (by simp; omega) _).trans (hN2.below.mono (by omega))
  have nG : Own w2 (w1.heap.size + 1) (dcells N (pwP N A 0)) 31 := hO2
  clear hB1 hO1 b1 hc hO2 hN2
  simp only [Act.put]
  go_loopw [4, 5] (fun v q wr => ∃ m g cap gn : Nat, m ≤ M ∧ v = .slice (some ⟨g, 0, none⟩) m cap ∧ q = .pointer (some ⟨gn, 0, none⟩) ∧ w.heap.size + 1 ≤ gn ∧ g ≠ gn ∧ RowQ wr (w.heap.size + 1) (.slice (some ⟨g, 0, none⟩) m cap) (pls N A m) ∧ Own wr gn (dcells N (pwP N A m)) 31 ∧ Own wr w.heap.size (dcells N A) 31 ∧ Below w.heap.size w wr) (fun v _ _ => M + 1 - lenV v)
  case atStart => exact ⟨0, _, _, _, Nat.zero_le _, rfl, rfl, by omega, by omega, nR, nG, nO, nB⟩
  case round =>
    clear nR nO nB nG
    obtain ⟨m, g, cap, gn, hmM, rfl, rfl, hgn, hgg, hR, hG, hO, hB⟩ := hrel
    obtain ⟨r, hr, hmin, hrm, hrM⟩ := hne.out m hmM
    have hmin' := Lib.hid hmin
    have hrm' := Lib.hid hrm
    have hrM' := Lib.hid hrM
    clear hmin hrm hrM
    have hrk := Lib.hid (fun x h k hk => hrd.out x (w.heap.size + 1) m g cap h k hk)
    have hEk := Lib.hid (fun k w => hE.out k m w)
    have hpm := Lib.hid (hpl.out m)
    have hpn := Lib.hid (hpl.out (m + 1))
    have hprk := Lib.hid (hpr.out m)
    have hnx : prP N (pwP N A m) A = pwP N A (m + 1) := rfl
    rw [hnx] at hprk
    have hp9 := Lib.hid (hp8.out (m + 1))
    have hmkk := Lib.hid (hmk2.out m)
    have hsu := Lib.hid (pls_succ N A m)
    have hrl : (pls N A m).length < 33554432 := by rw [pls_len]; omega
    have cm := dcells_zero (N : Int) (pwP N A m)
    obtain ⟨c, hcc⟩ : ∃ c : Int, ((prC N (pwP N A m) A : Nat) : Int) = c := ⟨_, rfl⟩
    rw [hcc] at hprk
    clear hnx hcc hpr hmk2 hp8 hne hrd hE
    go_wp2
    go_loopw [6] (fun i wj => ∃ k : Nat, k ≤ r ∧ i = .int .i64 k ∧ RowQ wj (w.heap.size + 1) (.slice (some ⟨g, 0, none⟩) m cap) (pls N A m) ∧ Own wj gn (dcells N (pwP N A m)) 31 ∧ Own wj w.heap.size (dcells N A) 31 ∧ Below w.heap.size w wj) (fun i _ => ((m : Int) + 1 - intOf i).toNat)
    case atStart => exact ⟨0, Nat.zero_le _, rfl, hR, hG, hO, hB⟩
    case round =>
      clear hR hG hO hB
      obtain ⟨k, hk, rfl, hR, hG, hO, hB⟩ := hrel
      by_cases hlt : k < m
      · have kI : (k : Int) < (m : Int) := by omega
        have hrq := Lib.hid (fun x h => hrk.out x h k hlt)
        have h9k := Lib.hid (h9.out k)
        have hEE := Lib.hid (hEk.out k)
        have ck := dcells_zero (N : Int) (pwP N A k)
        have hkr := Lib.hid (show k < r → pwP N A k ≠ pwP N A m from hmin'.out k)
        have hkf := Lib.hid (show k = r → m = M ∧ r = I ∧ pwP N A k = pwP N A m from fun h => by
          have hmm : m = M := by
            by_cases h' : m < M
            · have := hrm'.out h'; omega
            · omega
          obtain ⟨a, b⟩ := hrM'.out hmm
          exact ⟨hmm, a, by rw [h]; exact b⟩)
        obtain ⟨y, hy⟩ : ∃ y, pwP N A k = y := ⟨_, rfl⟩
        rw [hy] at hrq h9k hEE ck hkr hkf
        obtain ⟨t, ht⟩ : ∃ t, pwP N A m = t := ⟨_, rfl⟩
        rw [ht] at hEE hkr hkf hG hpm cm
        have ht' := Lib.hid ht
        clear hy ht
        go_upto_region 8 with fail
        refine wp_region_st (fun x => Own x gn (dcells N t) 31 ∧ RowQ x (w.heap.size + 1) (.slice (some ⟨g, 0, none⟩) m cap) (pls N A m)) [(true, 0), (true, 1), (true, 2), (true, 3), (true, 4)] 5 (by kernel_rfl) (by kernel_rfl) ⟨hG.drewN 1, hR⟩ ?_
        have hOd : Own { wr with drawn := wr.drawn + 1 } w.heap.size (dcells N A) 31 := hO
        have hGd : Own { wr with drawn := wr.drawn + 1 } gn (dcells N t) 31 := hG
        have hRd : RowQ { wr with drawn := wr.drawn + 1 } (w.heap.size + 1) (.slice (some ⟨g, 0, none⟩) m cap) (pls N A m) := hR
        have hBd : Below w.heap.size w { wr with drawn := wr.drawn + 1 } := hB.drew
        clear hO hR hB hG
        generalize ({ wr with drawn := wr.drawn + 1 } : World) = w3 at *
        simp only [List.map_cons, List.map_nil, opS'_mk, opN_zero, opN_succ, List.drop_succ_cons, List.drop_zero]
        (apply wpSt_read; · (intro wd hS K hK; clear hS; go_simp; exact hK))
        (apply wpSt_read; · (intro wd hS K hK; clear hS; go_simp; exact hK))
        (apply wpSt_read; · (intro wd hS K hK; clear hS; go_simp; exact hK))
        (apply wpSt_read; · (intro wd hS K hK; rw [if_pos (by rfl)]; refine still_load_q 31 (.tmp 22) rfl ⟨g, k * 9, none⟩ (by first | rfl | simp) (dcells N y).toList _ (hrq.out wd hS.2) Try.underlying31 rfl (by rw [h9k.out]; kernel_rfl) ?_; exact hK))
        (apply wpSt_read; · (intro wd hS K hK; rw [if_pos (by rfl)]; refine still_load_row 31 (.tmp 5) rfl gn rfl 31 (dcells N t) _ hS.1 Try.underlying31 rfl (rowP (d9 _ _ hpm.out)) ?_; exact hK))
        refine wpSt_nil ?_
        have hE3 := hEE.out
        by_cases hkk : k < r
        · have hd := hkr.out hkk
          simp only [decide_eq_false hd] at hE3
          rw [← ht'.out] at hGd
          have KG := Lib.hid hGd
          clear hkr hkf hEE hGd
          go_wp2
          go_roundw
          case rel => exact ⟨k + 1, by omega, by go_num, hRd, KG.out, hOd, hBd⟩
          case measure => simp [intOf]; omega
        · have e : k = r := by omega
          obtain ⟨e1, e2, hd⟩ := hkf.out e
          have E1 := Lib.hid (show (M : Int) = (m : Int) by omega)
          have E2 := Lib.hid (show (I : Int) = (k : Int) by omega)
          simp only [decide_eq_true hd] at hE3
          clear hkr hkf hEE hrm' hrM' hmin' hd e e1 e2 ht'
          go_wp2
          go_ret2
          rw [E1.out, E2.out]
          exact ⟨some ⟨w3.heap.size, 0, none⟩, 2, rfl, Mn.new hBd.size (Own.new w3 _ _), hBd.alloc hBd.size _⟩
      · have e : k = m := by omega
        subst e
        have hmlt : k < M := by
          by_cases h' : k < M
          · exact h'
          · have := hrM'.out (by omega); omega
        clear hrk hEk hmin' hrm' hrM'
        go_upto_region 11 with (first
          | (refine wpList_load_row rfl 31 _ rfl _ rfl 31 _ (0, 0) _ (hG) Try.underlying31 rfl (rowP (d9 _ _ (hpm.out))) ?_)
          | (refine wpList_mksl rfl 55 (.tmp 34) rfl (.agg (dcells N (pwP N A k))) (.slice (some ⟨wr.heap.size, 0, none⟩) 1 1) rfl (hmkk.out wr) ?_)
          | (refine wpList_append_rowQ rfl (.tmp 33) (.tmp 35) rfl (w.heap.size + 1) _ (pls N A k) N (pwP N A k) hpm.out rfl (hR.alloc _) wr.heap.size 1 rfl (Own.new _ _ _) hrl (by have := hO.lt; simp; omega) ?_; intro v5 w5 hR5 hG5 hA5))
        have o5 : Own w5 w.heap.size (dcells N A) 31 := (hG5.block w.heap.size (by have := hO.lt; simp; omega) (fun e => by have := (hR.own _ e.symm).1; omega)).trans (hO.alloc _)
        have g5 : Own w5 gn (dcells N (pwP N A k)) 31 := (hG5.block gn (by have := hG.lt; simp; omega) (fun e => by have e' : some gn = some g := e; injection e' with e'; omega)).trans (hG.alloc _)
        have b5 : Below w.heap.size w w5 := (hB.alloc hB.size _).grown hG5 (by have := hB.size; simp; omega) (fun j e => Nat.le_of_succ_le (hR.own j e).1)
        have gl := hG.lt
        rw [← hsu.out] at hR5
        obtain ⟨gl5, cl5, rfl, hg5, hgl5⟩ := hR5.at hp9.out (by rw [pls_len]; omega)
        rw [pls_len] at hR5 ⊢
        have ng : gl5 ≠ gn := by
          rcases hA5 with e | e
          · have e' : some gl5 = some g := e
            injection e' with e'; omega
          · have e' : some gl5 = some _ := e
            injection e' with e'; simp at e'; omega
        clear hR hG hO hB hG5 hA5 hg5 hgl5
        go_upto_region 12 with (first
          | (refine wpList_load_row rfl 31 _ rfl _ rfl 31 _ (0, 0) _ (g5) Try.underlying31 rfl (rowP (d9 _ _ (hpm.out))) ?_)
          | (refine wpList_load_row rfl 31 _ rfl _ rfl 31 _ (0, 0) _ (o5) Try.underlying31 rfl (rowP (d9 _ _ (hl.out))) ?_)
          | (go_at_call 28; ((with_reducible refine (hprk.out _).mono ?_); rintro e w6 ⟨rfl, hB6⟩))
          | (refine wpList_store_own rfl 31 _ _ rfl _ _ rfl rfl 31 _ (Own.new w6 _ _) (rowP (d9 _ _ (hpn.out))) (z_eq8 (d9 _ _ hpn.out)) (dcells_one _ _) ?_; intro w7 hO7 hN7))
        have o7 : Own w7 w.heap.size (dcells N A) 31 := (hN7.other w.heap.size (Nat.ne_of_lt (o5.below hB6 o5.lt).lt)).trans ((o5.below hB6 o5.lt).alloc (.cells zp 31))
        have g7 : Own w7 gn (dcells N (pwP N A k)) 31 := (hN7.other gn (Nat.ne_of_lt (g5.below hB6 g5.lt).lt)).trans ((g5.below hB6 g5.lt).alloc (.cells zp 31))
        have b6 : Below w.heap.size w w6 := b5.trans (hB6.mono b5.size)
        have b7 : Below w.heap.size w w7 := (b6.alloc b6.size _).trans (hN7.below.mono b6.size)
        have r6 := hR5.below hB6 (Nat.le_refl _)
        have r7 : RowQ w7 (w.heap.size + 1) (.slice (some ⟨gl5, 0, none⟩) (k + 1) cl5) (pls N A (k + 1)) := (r6.alloc (.cells zp 31)).kept (fun j e => hN7.other j (Nat.ne_of_lt (r6.own j e).2.1))
        clear hR5 o5 g5 b5 hB6 hN7 b6 r6
        go_upto_region 14 with (first
          | (refine wpList_load_row rfl 31 _ rfl _ rfl 31 _ (0, 0) _ (hO7) Try.underlying31 rfl (rowP (d9 _ _ (hpn.out))) ?_)
          | (refine wpList_store_own rfl 31 _ _ rfl _ _ rfl rfl 31 _ (g7) (rowP (d9 _ _ (hpn.out))) (by rw [d9 _ _ hpm.out, d9 _ _ hpn.out]) (dcells_one _ _) ?_; intro w8 hO8 hN8)
          | (refine wpList_load_row rfl 31 _ rfl _ rfl 31 _ (0, 0) _ (hO8) Try.underlying31 rfl (rowP (d9 _ _ (hpn.out))) ?_))
        have o8 : Own w8 w.heap.size (dcells N A) 31 := (hN8.other w.heap.size (by omega)).trans o7
        have b8 : Below w.heap.size w w8 := b7.trans (hN8.below.mono (by omega))
        have r8 : RowQ w8 (w.heap.size + 1) (.slice (some ⟨gl5, 0, none⟩) (k + 1) cl5) (pls N A (k + 1)) := r7.kept (fun j e => hN8.other j (by have e' : some gl5 = some j := e; injection e' with e'; omega))
        clear hO7 o7 b7 r7 hN8 g7 hO8
        go_wp2_with (first
          | (refine wpList_store_own rfl 31 _ _ rfl _ _ rfl rfl 31 _ (Own.new w8 _ _) (rowP (d9 _ _ (hpn.out))) (z_eq8 (d9 _ _ hpn.out)) (dcells_one _ _) ?_; intro w9 hO9 hN9))
        have o9 : Own w9 w.heap.size (dcells N A) 31 := (hN9.other w.heap.size (Nat.ne_of_lt o8.lt)).trans (o8.alloc (.cells zp 31))
        have b9 : Below w.heap.size w w9 := (b8.alloc b8.size _).trans (hN9.below.mono b8.size)
        have r9 : RowQ w9 (w.heap.size + 1) (.slice (some ⟨gl5, 0, none⟩) (k + 1) cl5) (pls N A (k + 1)) := (r8.alloc (.cells zp 31)).kept (fun j e => hN9.other j (Nat.ne_of_lt (r8.own j e).2.1))
        have n9 : gl5 ≠ w8.heap.size := Nat.ne_of_lt (r8.own gl5 rfl).2.1
        have l9 := o8.lt
        simp only [Act.put]
        go_roundw
        case rel => exact ⟨k + 1, gl5, cl5, w8.heap.size, by omega, rfl, rfl, by omega, n9, r9, hO9, o9, b9⟩
        case measure => simp [lenV]; omega
theorem pwI_bad (n : Int) (A : List Int) (h8 : A.length = 8) (hd : isP n A = false) (w : World) :
    Calls Try.prog 10 #[.agg (dcells n A)] w (ResI [] 1 w) := by
  have hl := Lib.hid h8
  have hc := Lib.hid (fun w => isPI_any n A h8 w)
  rw [hd] at hc
  clear h8 hd
  go_enter Try.func10, Try.ntmps10
  go_wp2_with (first
    | (refine wpList_load_row rfl 31 _ rfl _ rfl 31 _ (0, 0) _ (Own.new w _ _) Try.underlying31 rfl (rowP (d9 _ _ (hl.out))) ?_)
    | (go_at_call 30; ((with_reducible refine (hc.out _).mono ?_); rintro e w1 ⟨rfl, hB1⟩)))
  go_ret2
  exact ⟨none, 0, rfl, Mn.nil _ _, ((Below.refl _ _).alloc (Nat.le_refl _) _).trans (hB1.mono (by simp))⟩
theorem pwS_bad (n : Int) (A : List Int) (h8 : A.length = 8) (hb : Bytes A) (hd : isP n A = false) (w : World) :
    Calls Try.prog 8 #[.agg (dcells n A)] w (ResI [] 1 w) := by
  have hl := Lib.hid h8
  have hc := Lib.hid (fun w => isPS_any n A h8 hb w)
  rw [hd] at hc
  clear h8 hb hd
  go_enter Try.func8, Try.ntmps8
  go_wp2_with (first
    | (refine wpList_load_row rfl 31 _ rfl _ rfl 31 _ (0, 0) _ (Own.new w _ _) Try.underlying31 rfl (rowP (d9 _ _ (hl.out))) ?_)
    | (go_at_call 27; ((with_reducible refine (hc.out _).mono ?_); rintro e w1 ⟨rfl, hB1⟩)))
  go_ret2
  exact ⟨none, 0, rfl, Mn.nil _ _, ((Below.refl _ _).alloc (Nat.le_refl _) _).trans (hB1.mono (by simp))⟩
set_option maxRecDepth 100000 in
set_option maxHeartbeats 4000000 in
theorem PowersOfPartition_walk (n : Int) (ms : List Int) (hms : ms.length = 8) (w : World) (xs : List Int) (hlx : xs.length ≤ 100000) (c : Int)
    (hS : ∀ w, Calls Try.prog 8 #[.agg (dcells n ms)] w (ResI xs c w))
    (hI : ∀ w, Calls Try.prog 10 #[.agg (dcells n ms)] w (ResI xs c w)) :
    Calls Try.prog 4 #[.agg (dcells n ms)] w fun e w' => e = .returned (.bool true) ∧ Below w.heap.size w w' := by
  have hl := Lib.hid hms
  have hS' := Lib.hid hS
  have hI' := Lib.hid hI
  obtain ⟨l1, hm1⟩ : ∃ m, xs.length = m := ⟨_, rfl⟩
  have he1 := Lib.hid (fun p q cap cap' w hR hQ => eqI_same p q cap cap' xs (by omega) w hR hQ)
  have hk1 := Lib.hid (fun B p cap w hM hB => mark_any B p cap xs (by omega) 1 (by omega) (by omega) w hM hB)
  have hh1 := Lib.hid (fun p cap w hR => held_any p cap l1 (by omega) 1 (by omega) (by omega) w hR)
  have hrs := Lib.hid (show ∀ w e w', ResI xs c w e w' → ∃ (p : Option Addr) (cap : Nat), e = .returned (.tuple #[.slice p l1 cap, .int .i64 c]) ∧ Mn w' w.heap.size p xs ∧ Below w.heap.size w w' from fun w e w' h => by
    obtain ⟨p, cap, h1, h2⟩ := h
    rw [hm1] at h1
    exact ⟨p, cap, h1, h2⟩)
  have ll1 : l1 ≤ 100000 := by omega
  rw [hm1] at he1 hk1
  clear hms hS hI hm1 hlx
  go_enter Try.func4, Try.ntmps4
  go_wp2_with (first
    | (go_at_call 13; ((with_reducible refine (hh1.out _ _ w9 (((hp1a.below hB7 (Nat.le_refl _)).below hB8 (Nat.le_refl _)).below hB9 (Nat.le_refl _)).rd).mono ?_); rintro e w9b ⟨rfl, rfl⟩))
    | (go_at_call 11; ((with_reducible refine (he1.out _ _ _ _ w8 hr1.rd ((hq1h.below hB7 (Nat.le_refl _)).below hB8 (Nat.le_refl _)).rd).mono ?_); rintro e w9 ⟨rfl, hB9⟩))
    | (go_at_call 10; ((with_reducible refine (hI'.out w7).mono ?_); rintro e w8 hres8; obtain ⟨r1, rc1, rfl, hr1, hB8⟩ := hrs.out _ _ _ hres8))
    | (go_at_call 9; ((with_reducible refine (toP_any n ms hl.out w6b).mono ?_); rintro e w7 ⟨rfl, hB7⟩))
    | (refine wpList_load_row rfl 27 _ rfl _ rfl 27 _ (0, 0) _ (hA6) Try.underlying27 rfl (rowLP (d9 _ _ (hl.out))) ?_)
    | (go_at_call 13; ((with_reducible refine (hh1.out _ _ w6 hp1a.rd).mono ?_); rintro e w6b ⟨rfl, rfl⟩))
    | (go_at_call 12; ((with_reducible refine (hk1.out w3.heap.size _ _ w5 (hp1.below hB5 (Nat.le_refl _)) (Nat.le_trans hB4.size hB5.size)).mono ?_); rintro e w6 ⟨rfl, hp1a, hB6⟩; have bq : Below w3.heap.size w3 w6 := (hB4.trans (hB5.mono hB4.size)).trans hB6; have hq1h := hq1c.below bq (Nat.le_refl _); have hA6 : Own w6 w.heap.size (dcells n ms) 27 := hA3.below bq hA3.lt))
    | (go_at_call 11; ((with_reducible refine (he1.out _ _ _ _ w4 hp1.rd (hq1c.below hB4 (Nat.le_refl _)).rd).mono ?_); rintro e w5 ⟨rfl, hB5⟩))
    | (go_at_call 10; ((with_reducible refine (hI'.out w3).mono ?_); rintro e w4 hres4; obtain ⟨p1, pc1, rfl, hp1, hB4⟩ := hrs.out _ _ _ hres4))
    | (go_at_call 9; ((with_reducible refine (toP_any n ms hl.out w2).mono ?_); rintro e w3 ⟨rfl, hB3⟩; have hq1c := hq1.below hB3 (Nat.le_refl _); have hA3 := hA2.below hB3 hA2.lt))
    | (refine wpList_load_row rfl 27 _ rfl _ rfl 27 _ (0, 0) _ (hA2) Try.underlying27 rfl (rowLP (d9 _ _ (hl.out))) ?_)
    | (go_at_call 8; ((with_reducible refine (hS'.out w1).mono ?_); rintro e w2 hres2; obtain ⟨q1, qc1, rfl, hq1, hB2⟩ := hrs.out _ _ _ hres2; have hA2 := hA1.below hB2 hA1.lt))
    | (go_at_call 9; ((with_reducible refine (toP_any n ms hl.out _).mono ?_); rintro e w1 ⟨rfl, hB1⟩; have hA1 : Own w1 w.heap.size (dcells n ms) 27 := (Own.new _ _ _).below hB1 (by simp)))
    | (refine wpList_load_row rfl 27 _ rfl _ rfl 27 _ (0, 0) _ (Own.new _ _ _) Try.underlying27 rfl (rowLP (d9 _ _ (hl.out))) ?_))
  go_ret
  have b0 : Below w.heap.size w (w.alloc (.cells (dcells n ms) 27)) := (Below.refl _ _).alloc (Nat.le_refl _) _
  have b1 := b0.trans (hB1.mono b0.size)
  have b2 := b1.trans (hB2.mono b1.size)
  have b3 := b2.trans (hB3.mono b2.size)
  have b8 := b3.trans (bq.mono b3.size)
  have b9 := b8.trans (hB7.mono b8.size)
  have b10 := b9.trans (hB8.mono b9.size)
  exact ⟨rfl, b10.trans (hB9.mono b10.size)⟩
theorem pow_law (n : Int) (ms : List Int) (hms : ms.length = 8) (hb : Bytes ms) (w : World) :
    Calls Try.prog 4 #[.agg (dcells n ms)] w fun e w' => e = .returned (.bool true) ∧ Below w.heap.size w w' := by
  cases hd : isP n ms with
  | true =>
    have hN := isP_n hd
    obtain ⟨N, rfl⟩ : ∃ N : Nat, n = N := ⟨n.toNat, by omega⟩
    have hA := isP_nums hms hd
    obtain ⟨M, I, hIM, hM, hq, hdis⟩ := pwP_back N ms hms hA (by omega)
    exact PowersOfPartition_walk N ms hms w _ (by simp) 0 (pwS_ok N ms hms hb hA hd M I hIM hM hq hdis) (pwI_ok N ms hms hb hA hd M I hIM hM hq hdis)
  | false => exact PowersOfPartition_walk n ms hms w [] (by simp) 1 (pwS_bad n ms hms hb hd) (pwI_bad n ms hms hd)
end Go.Proofs.Ytlgdeciikliihaa
