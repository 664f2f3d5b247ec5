/- The elimination of rows: the model. -/
import Derived.Test.YtideboicnaaojaaDoorGmb
import Derived.Test.YtideboicnaaojaaDoorGme
import Derived.Test.YtideboicnaaojaaDoorGma
namespace Go.Proofs.YtideboicnaaojaaDoor
open Go.RowKit
set_option linter.unusedVariables false
set_option linter.unusedSimpArgs false
theorem mk0i : ∀ w : World, (Instr.buildSlice 41 0 #[]).run Tryd.prog w = .ok (.slice (some ⟨w.heap.size, 0, none⟩) 0 0) (w.alloc (.cells #[] 2)) := by
  intro w; kernel_rfl
theorem mk1i (x : Int) : ∀ w : World, (Instr.buildSlice 41 1 #[(0, .int .i64 x)]).run Tryd.prog w = .ok (.slice (some ⟨w.heap.size, 0, none⟩) 1 1) (w.alloc (.cells #[.int .i64 x] 2)) := by
  intro w; kernel_rfl
theorem tak_succ (l : List Int) (q : Nat) (h : q < l.length) : l.take (q + 1) = l.take q ++ [l.getD q 0] := by
  rw [List.take_add_one, List.getElem?_eq_getElem h, List.getD_eq_getElem?_getD, List.getElem?_eq_getElem h]; rfl
theorem cell_keep {w x : World} (h : Below w.heap.size w x) {a : Addr} {v : Value} (hc : w.cell? a = some v) : x.cell? a = some v := (h.cell (World.block_lt_of_cell? w a hc)).trans hc
set_option maxRecDepth 100000 in
set_option maxHeartbeats 16000000 in
theorem echS_any (p : Int) (hp : primeB p = true) (g2 n cT : Nat) (hn : n ≤ 1000) (B : Nat) (hB2 : B ≤ g2) (hs0 : List (Nat × Nat)) (R0 : List (List Int)) (hok : RowsP p n R0) (w : World) (h : Tbm w g2 n n hs0 R0) (hBw : B ≤ w.heap.size) :
    Calls Tryd.prog 27 #[.int .i64 p, .slice (some ⟨g2, 0, none⟩) n cT] w fun e w' => e = .returned (.tuple #[.int .i64 (resM p n n R0 1 % p), .int .i64 (rkM p n n R0 0 : Nat)]) ∧ Below B w w' := by
  obtain ⟨p2, p97⟩ := primeB_two hp
  obtain ⟨A, hA⟩ : ∃ A, resM p n n R0 1 = A := ⟨_, rfl⟩
  obtain ⟨K, hK⟩ : ∃ K, rkM p n n R0 0 = K := ⟨_, rfl⟩
  rw [hA, hK]
  have hmd := Lib.hid (fun x w1 (h0 : -1000000 ≤ x) (h1 : x ≤ 1000000) => (modS_any p x w1 p2 p97 (by omega) (by omega)).mono fun e w' h => (show e = .returned (.int .i64 (x % p)) ∧ w' = w1 from ⟨h.1, h.2.symm⟩))
  have hpr := Lib.hid hp
  have nA := Lib.hid (show resM p n n R0 1 = A ∧ rkM p n n R0 0 = K from ⟨hA, hK⟩)
  have nOk := Lib.hid hok
  have hB2' := Lib.hid hB2
  have hm0 := mk0i
  clear hok hp hA hK hB2
  go_enter Tryd.func27, Tryd.ntmps27
  go_wp2
  go_loopw [7, 8, 9] (fun dt rk cc wr => ∃ (c r : Nat) (d : Int) (hs : List (Nat × Nat)) (R : List (List Int)), c ≤ n ∧ r ≤ n ∧ dt = .int .i64 d ∧ rk = .int .i64 r ∧ cc = .int .i64 c ∧ 0 ≤ d ∧ d ≤ 97 ∧ Tbm wr g2 n n hs R ∧ Hid (RowsP p n R) ∧ Hid (resM p n (n - c) (R.drop r) d = A ∧ rkM p n (n - c) (R.drop r) r = K) ∧ Below B w wr) (fun _ _ cc _ => ((n : Int) - intOf cc).toNat)
  case atStart => exact ⟨0, 0, 1, hs0, R0, Nat.zero_le _, Nat.zero_le _, rfl, rfl, rfl, by omega, by omega, h, nOk, Lib.hid (by rw [Nat.sub_zero, List.drop_zero]; exact nA.out), Below.refl _ _⟩
  case round =>
    clear h nOk nA
    obtain ⟨c, r, d, hs, R, hc, hr, rfl, rfl, rfl, db0, db1, hT, hok, hW, hB⟩ := hrel
    by_cases hcn : c < n
    · have cI : (c : Int) < (n : Int) := by omega
      have hlenR := hT.lr
      have hdl : (R.drop r).length = n - r := by rw [List.length_drop, hlenR]
      obtain ⟨F, hF⟩ : ∃ F, n - c = F + 1 := ⟨n - c - 1, by omega⟩
      have hres : (A = if bst (R.drop r) c (R.drop r).length 0 = (R.drop r).length then resM p n F (R.drop r) 0 else resM p n F (nxtR p n c (bst (R.drop r) c (R.drop r).length 0) (R.drop r)) (stF p (bst (R.drop r) c (R.drop r).length 0) d ((rw' (R.drop r) (bst (R.drop r) c (R.drop r).length 0)).getD c 0))) ∧ (K = if bst (R.drop r) c (R.drop r).length 0 = (R.drop r).length then rkM p n F (R.drop r) r else rkM p n F (nxtR p n c (bst (R.drop r) c (R.drop r).length 0) (R.drop r)) (r + 1)) := by
        have := hW.out
        rw [hF, resM, rkM, show n - (F + 1) = c by omega] at this
        exact ⟨this.1.symm, this.2.symm⟩
      have hbd := bst_bd (R.drop r) c (R.drop r).length 0
      have hat := bst_at (R.drop r) c (R.drop r).length 0
      have hst := Lib.hid (show ∀ f k, bst (R.drop r) c (f + 1) k = if (rw' R (r + k)).getD c 0 = 0 then bst (R.drop r) c f (k + 1) else k from fun f k => by rw [bst, drop_get])
      have hst0 := Lib.hid (show ∀ k, bst (R.drop r) c 0 k = k from fun k => rfl)
      rw [hdl] at hbd hat hres
      obtain ⟨L, hL⟩ : ∃ L, n - r = L := ⟨_, rfl⟩
      rw [hL] at hbd hat hres
      obtain ⟨b', hb'⟩ : ∃ b', bst (R.drop r) c L 0 = b' := ⟨_, rfl⟩
      rw [hb'] at hbd hat hres
      have hres' := Lib.hid hres
      have hat' := Lib.hid hat
      have hb'' := Lib.hid hb'
      clear hW hdl hres hat hb'
      go_wp2
      go_loopw [10] (fun be wj => ∃ k : Nat, k ≤ L ∧ be = .int .i64 ((r + k : Nat) : Int) ∧ Hid (bst (R.drop r) c (L - k) k = b') ∧ Tbm wj g2 n n hs R ∧ Below B w wj) (fun be _ => ((n : Int) + 1 - intOf be).toNat)
      case atStart => exact ⟨0, Nat.zero_le _, rfl, Lib.hid (by rw [Nat.sub_zero]; exact hb''.out), hT, hB⟩
      case round =>
        clear hT hB hb''
        obtain ⟨k, hk, rfl, hbk, hT, hB⟩ := hrel
        obtain ⟨i, hi⟩ : ∃ i, r + k = i := ⟨_, rfl⟩
        have hi' := Lib.hid hi
        rw [hi]
        by_cases hkL : k < L
        · have hin : i < n := by omega
          have iI : (i : Int) < (n : Int) := by omega
          have c1 := hT.head i hin
          have c2 := hT.num i c hin hcn
          obtain ⟨⟨gi, ci⟩, hgi⟩ : ∃ x, hs.getD i (0, 0) = x := ⟨_, rfl⟩
          rw [hgi] at c1 c2
          dsimp only at c1 c2
          obtain ⟨f, hf⟩ : ∃ f, L - k = f + 1 := ⟨L - k - 1, by omega⟩
          have hbb := hbk.out
          rw [hf, hst.out, hi] at hbb
          by_cases hx : (rw' R i).getD c 0 = 0
          · rw [hx] at c2
            rw [if_pos hx] at hbb
            have K1 := Lib.hid (show bst (R.drop r) c (L - (k + 1)) (k + 1) = b' by rw [show L - (k + 1) = f by omega]; exact hbb)
            clear hbb hx hbk hgi hi
            go_wp2
            go_roundw
            case rel => exact ⟨k + 1, by omega, by rw [show ((r + (k + 1) : Nat) : Int) = (i : Int) + 1 by have := hi'.out; omega], K1, hT, hB⟩
            case measure => simp [intOf]; omega
          · rw [if_neg hx] at hbb
            have hbe : k = b' := hbb
            obtain ⟨x, hxx⟩ : ∃ x, (rw' R i).getD c 0 = x := ⟨_, rfl⟩
            rw [hxx] at c2 hx
            have hx' : (x == 0) = false := by simpa using hx
            have hx0 := hx
            have hin' := hin
            clear hx hin
            have hxp : x ≠ 0 := hx0
            have hnE : ((i : Int) == (n : Int)) = false := by simp; omega
            obtain ⟨M, hM⟩ : ∃ M, n - r = M + 1 := ⟨n - r - 1, by omega⟩
            have hres1 := hres'.out
            rw [if_neg (show ¬ b' = L by omega), if_neg (show ¬ b' = L by omega), drop_get, ← hbe, hi, hxx] at hres1
            have hfin0 := fin_eqM (N := n) (n := n) (r := r) (b := k) (c := c) hok.out hlenR (by omega) M hM
            rw [hi, hxx] at hfin0
            have xb := hok.out.bd i c (by omega) hcn
            rw [hxx] at xb
            have hbr : i = r ↔ k = 0 := by omega
            have f2b := stF_bd p k d x p2
            have hsd : stF p k d x = (if k = 0 then d else -d) * x % p := rfl
            obtain ⟨f2, hf22⟩ : ∃ y, stF p k d x = y := ⟨_, rfl⟩
            rw [hf22] at f2b hsd hres1
            have howns : rw' (swp R r i) r = rw' R i := by
              rw [swp_get _ _ _ _ (by omega) (by omega)]
              by_cases e : r = i
              · rw [if_pos e, e]
              · rw [if_neg e, if_pos rfl]
            obtain ⟨own, hownn⟩ : ∃ y, rw' R i = y := ⟨_, rfl⟩
            rw [hownn] at hfin0 howns hxx
            have hlens : (swp R r i).length = n := by rw [swp_len]; exact hlenR
            have hoks := swp_ok hok.out r i (by omega) (by omega)
            have hfv := mul_bd' d x db0 db1 xb.1 (by omega)
            obtain ⟨fv1, fv2, fv3, fv4⟩ := hfv
            have hin := Lib.hid (fun w1 => (invS_any p x w1 hpr.out (by omega) xb.2).mono fun e w' h => (show e = .returned (.int .i64 (rcp p x)) ∧ w1 = w' from ⟨h.1, h.2⟩))
            have hrc := rcp_pos p x hpr.out (by omega) xb.2
            obtain ⟨rc, hrcc⟩ : ∃ y, rcp p x = y := ⟨_, rfl⟩
            rw [hrcc] at hin hfin0 hrc
            obtain ⟨rc0, rc1⟩ := hrc
            obtain ⟨xb0, xb1⟩ := xb
            have hfin := Lib.hid hfin0
            have hresN := Lib.hid hres1
            clear hfin0 hres1 hf22 hrcc hres' hat' hst hst0 hbk hbb hf hbd
            by_cases hir : i = r
            · have bE : ((i : Int) == (r : Int)) = true := by simp; omega
              rw [if_pos (hbr.1 hir)] at hsd
              have hsw : swp R r i = R := by unfold swp; rw [if_pos hir]
              rw [hsw] at hfin hlens hoks howns
              have hmf := Lib.hid (fun w1 => (hmd.out (d * x) w1 (by omega) (by omega)).mono fun e w' h => (show e = .returned (.int .i64 f2) ∧ w1 = w' from ⟨by rw [hsd]; exact h.1, h.2.symm⟩))
              have hgi1 : hs.getD r (0, 0) = (gi, ci) := by rw [← hir]; exact hgi
              clear hsw hsd hgi hi hownn hbr hbe hok hlenR hir fv3 fv4
              go_upto_region 17 with (first
                | (go_at_call 44; ((with_reducible refine (hmf.out _).mono ?_); rintro e w4 ⟨rfl, rfl⟩))
                | (go_at_call 45; ((with_reducible refine (hin.out _).mono ?_); rintro e w5 ⟨rfl, rfl⟩)))
              clear c1 c2 hmf hin
              obtain ⟨hs1, hhs1⟩ : ∃ y, hs = y := ⟨_, rfl⟩
              obtain ⟨R1, hR1⟩ : ∃ y, R = y := ⟨_, rfl⟩
              rw [hR1] at howns hoks hlens hfin hT hresN
              rw [hhs1] at hgi1 hT
              have hok1 := Lib.hid hoks
              clear hR1 hhs1 hoks
              have hBs := hB.size
              have hm1 := mk1i
              go_wp2
              go_loopw [13] (fun iv wj => ∃ (m : Nat) (hs2 : List (Nat × Nat)), m ≤ M ∧ iv = .int .i64 ((r + 1 + m : Nat) : Int) ∧ hs2.getD r (0, 0) = (gi, ci) ∧ Tbm wj g2 n n hs2 (updM p n r c rc own R1 m) ∧ Below B w wj) (fun iv _ => ((n : Int) - intOf iv).toNat)
              case atStart => exact ⟨0, hs1, Nat.zero_le _, by go_num, hgi1, hT, hB⟩
              case round =>
                clear hT hB hBs
                obtain ⟨m, hs2, hm, rfl, hgr, hT, hB⟩ := hrel
                obtain ⟨j, hj⟩ : ∃ j, r + 1 + m = j := ⟨_, rfl⟩
                rw [hj]
                have hj' := Lib.hid hj
                by_cases hmM : m < M
                · have hjn : j < n := by omega
                  have jI : (j : Int) < (n : Int) := by omega
                  have hgrow : rw' (updM p n r c rc own R1 m) r = own := by
                    rw [updM_get _ _ _ _ _ _ _ _ _ (by omega), if_neg (by omega)]; exact howns
                  have hrow : rw' (updM p n r c rc own R1 m) j = rw' R1 j := by
                    rw [updM_get _ _ _ _ _ _ _ _ _ (by omega), if_neg (by omega)]
                  have hoku := updM_ok p2 hok1.out r c rc own m (by omega)
                  have hul : (updM p n r c rc own R1 m).length = n := by rw [updM_len]; exact hlens
                  have hus : updM p n r c rc own R1 (m + 1) = (updM p n r c rc own R1 m).set j (red p n c rc own (rw' (updM p n r c rc own R1 m) j)) := by rw [hrow, updM, hj]
                  obtain ⟨R2, hR2⟩ : ∃ y, updM p n r c rc own R1 m = y := ⟨_, rfl⟩
                  rw [hR2] at hT hoku hus hgrow hul
                  have hrl := hT.len j hjn
                  have hrb := fun q hq => hoku.bd j q (by omega) hq
                  have hown0 := hok1.out.bd r
                  have howl := hT.len r (by omega)
                  rw [howns] at hown0
                  rw [hgrow] at howl
                  have c3 := hT.head j hjn
                  have c4 := hT.num j c hjn hcn
                  have hnr := Lib.hid (fun q hq => hT.num r q (show r < n by omega) hq)
                  have hnj := Lib.hid (fun q hq => hT.num j q hjn hq)
                  obtain ⟨⟨gj, cj⟩, hgj⟩ : ∃ y, hs2.getD j (0, 0) = y := ⟨_, rfl⟩
                  rw [hgj] at c3 c4 hnj
                  rw [hgr, hgrow] at hnr
                  dsimp only at c3 c4 hnr hnj
                  have hz := red_zero p n c rc own (rw' R2 j) hrl (fun q hq => hrb q hq)
                  have hrg := Lib.hid (fun q hq => red_get p n c rc own (rw' R2 j) q hq)
                  have hrdl := red_len p n c rc own (rw' R2 j)
                  have hset : R2.set j (rw' R2 j) = R2 := by
                    refine List.ext_getElem (by simp) (fun q h1 h2 => ?_)
                    rw [List.getElem_set]
                    by_cases e : j = q
                    · subst e
                      rw [if_pos rfl]
                      unfold rw'
                      rw [List.getD_eq_getElem?_getD, List.getElem?_eq_getElem h2]; rfl
                    · rw [if_neg e]
                  obtain ⟨row, hrw⟩ : ∃ y, rw' R2 j = y := ⟨_, rfl⟩
                  rw [hrw] at hrl hrb c4 hz hrg hrdl hset hus hnj
                  have yb := hrb c hcn
                  obtain ⟨y, hy⟩ : ∃ y, row.getD c 0 = y := ⟨_, rfl⟩
                  rw [hy] at c4 hz hrg yb
                  obtain ⟨yb0, yb1⟩ := yb
                  have yn := Int.mul_nonneg yb0 (show 0 ≤ rc by omega)
                  have yr := mul_bd' y rc yb0 (by omega) (by omega) (by omega)
                  obtain ⟨yr1, yr2, _, _⟩ := yr
                  have tm : (y * rc).tmod p = y * rc % p := Int.tmod_eq_emod_of_nonneg yn
                  have tb0 := Int.emod_nonneg (y * rc) (show p ≠ 0 by omega)
                  have tb1 := Int.emod_lt_of_pos (y * rc) (show 0 < p by omega)
                  obtain ⟨fc, hfc⟩ : ∃ z, y * rc % p = z := ⟨_, rfl⟩
                  rw [hfc] at tm hz hrg tb0 tb1
                  have pz : (p == 0) = false := by simp; omega
                  have hBj := hB.size
                  clear hR2 hrow hoku hgrow hj hy hrw yn hfc hgj hul
                  by_cases hf0 : fc = 0
                  · have K2 : updM p n r c rc own R1 (m + 1) = R2 := by rw [hus, hz hf0, hset]
                    rw [hf0] at tm
                    have K1 := Lib.hid (show Tbm (wr.alloc (.cells #[] 2)) g2 n n hs2 (updM p n r c rc own R1 (m + 1)) by rw [K2]; exact hT.alloc _)
                    have K3 := Lib.hid (hB.alloc (show B ≤ wr.heap.size by omega) (.cells #[] 2))
                    clear hz hset hf0 hus K2 hT hB tb0 tb1
                    go_wp2
                    go_roundw
                    case rel => exact ⟨m + 1, hs2, by omega, by rw [show ((r + 1 + (m + 1) : Nat) : Int) = (j : Int) + 1 by have := hj'.out; omega], hgr, K1.out, K3.out⟩
                    case measure => simp [intOf]; omega
                  · have fz : (fc == 0) = false := by simpa using hf0
                    obtain ⟨L1, hL1⟩ : ∃ z, red p n c rc own row = z := ⟨_, rfl⟩
                    rw [hL1] at hus hrdl hrg
                    obtain ⟨wj, rfl⟩ : ∃ x, x = wr := ⟨_, rfl⟩
                    have htw := Lib.hid hT
                    have hBw2 := Lib.hid hB
                    have hus' := Lib.hid hus
                    clear hz hset hf0 hL1 hus hT hB
                    go_wp2
                    go_loopw [15, 16] (fun nx jv wq => ∃ (q g cap : Nat), q ≤ n ∧ jv = .int .i64 q ∧ nx = .slice (some ⟨g, 0, none⟩) q cap ∧ Ints wq wj.heap.size g cap (L1.take q) ∧ Below wj.heap.size wj wq) (fun _ jv _ => ((n : Int) - intOf jv).toNat)
                    case atStart => exact ⟨0, wj.heap.size, 0, by omega, rfl, rfl, Ints.new wj _ _ 0 (Nat.le_refl _) rfl (by decide) _ rfl, (Below.refl _ _).alloc (Nat.le_refl _) _⟩
                    case round =>
                      obtain ⟨q, g, cap, hq, rfl, rfl, hI, hBq⟩ := hrel
                      by_cases hqn : q < n
                      · have qI : (q : Int) < (n : Int) := by omega
                        have zb := hrb q hqn
                        have ob := hown0 q (by omega) hqn
                        have hval := hrg.out q hqn
                        have c5 := hnj.out q hqn
                        have c6 := hnr.out q hqn
                        have hlt := tak_succ L1 q (by omega)
                        obtain ⟨z, hz⟩ : ∃ y, row.getD q 0 = y := ⟨_, rfl⟩
                        obtain ⟨o, ho⟩ : ∃ y, own.getD q 0 = y := ⟨_, rfl⟩
                        obtain ⟨nv, hnv⟩ : ∃ y, L1.getD q 0 = y := ⟨_, rfl⟩
                        rw [hz] at zb hval c5
                        rw [ho] at ob hval c6
                        rw [hnv] at hval hlt
                        have hlt' := Lib.hid hlt
                        obtain ⟨ob0, ob1⟩ := ob
                        obtain ⟨zb0, zb1⟩ := zb
                        have fo := mul_bd' fc o tb0 (by omega) ob0 (by omega)
                        obtain ⟨fo1, fo2, _, _⟩ := fo
                        have hmq := Lib.hid (fun w1 => (hmd.out (z - fc * o) w1 (by omega) (by omega)).mono fun e w' h => (show e = .returned (.int .i64 nv) ∧ w1 = w' from ⟨by rw [hval]; exact h.1, h.2.symm⟩))
                        have hc := Lib.hid (show ∀ x : World, Below wj.heap.size wj x → x.cell? ⟨g2, j, none⟩ = some (.slice (some ⟨gj, 0, none⟩) n cj) ∧ x.cell? ⟨gj, q, none⟩ = some (.int .i64 z) ∧ x.cell? ⟨gi, q, none⟩ = some (.int .i64 o) from fun x h => ⟨cell_keep h c3, cell_keep h c5, cell_keep h c6⟩)
                        have htl : (L1.take q).length = q := by rw [List.length_take]; omega
                        have hgg := hI.1
                        have hBqs := hBq.size
                        clear hval hz ho hnv hlt c5 c6
                        go_wp2
                        refine wp_region_st (fun x => Ints x wj.heap.size g cap (L1.take q) ∧ Below wj.heap.size wj x) [(true, 0), (true, 1), (true, 2), (true, 3), (true, 4), (true, 5), (true, 6), (true, 7), (true, 8), (true, 9), (true, 10), (true, 11), (true, 12), (true, 13), (true, 14), (true, 15), (false, 16), (false, 17)] 18 (by kernel_rfl) (by kernel_rfl) ⟨hI.drewN 1, Below.drewN hBq 1⟩ ?_
                        simp only [List.map_cons, List.map_nil, opS'_mk, opN_zero, opN_succ, List.drop_succ_cons, List.drop_zero]
                        have hI8 := hI.drewN 1
                        have hB8 := Below.drewN hBq 1
                        change Ints { wr with drawn := wr.drawn + 1 } _ _ _ _ at hI8
                        change Below _ _ { wr with drawn := wr.drawn + 1 } at hB8
                        clear hI hBq
                        generalize ({ wr with drawn := wr.drawn + 1 } : World) = w8 at *
                        (apply wpSt_read; · (intro wd hS K hK; obtain ⟨d0, d1, d2⟩ := hc.out wd hS.2; clear hS; go_simp; exact hK))
                        (apply wpSt_read; · (intro wd hS K hK; obtain ⟨d0, d1, d2⟩ := hc.out wd hS.2; clear hS; go_simp; exact hK))
                        (apply wpSt_read; · (intro wd hS K hK; obtain ⟨d0, d1, d2⟩ := hc.out wd hS.2; clear hS; go_simp; exact hK))
                        (apply wpSt_read; · (intro wd hS K hK; obtain ⟨d0, d1, d2⟩ := hc.out wd hS.2; clear hS; go_simp; exact hK))
                        (apply wpSt_read; · (intro wd hS K hK; obtain ⟨d0, d1, d2⟩ := hc.out wd hS.2; clear hS; go_simp; exact hK))
                        (apply wpSt_read; · (intro wd hS K hK; obtain ⟨d0, d1, d2⟩ := hc.out wd hS.2; clear hS; go_simp; exact hK))
                        (apply wpSt_read; · (intro wd hS K hK; obtain ⟨d0, d1, d2⟩ := hc.out wd hS.2; clear hS; go_simp; exact hK))
                        (apply wpSt_read; · (intro wd hS K hK; obtain ⟨d0, d1, d2⟩ := hc.out wd hS.2; clear hS; go_simp; exact hK))
                        (apply wpSt_read; · (intro wd hS K hK; obtain ⟨d0, d1, d2⟩ := hc.out wd hS.2; clear hS; go_simp; exact hK))
                        (apply wpSt_read; · (intro wd hS K hK; obtain ⟨d0, d1, d2⟩ := hc.out wd hS.2; clear hS; go_simp; exact hK))
                        (apply wpSt_read; · (intro wd hS K hK; obtain ⟨d0, d1, d2⟩ := hc.out wd hS.2; clear hS; go_simp; exact hK))
                        (apply wpSt_read; · (intro wd hS K hK; obtain ⟨d0, d1, d2⟩ := hc.out wd hS.2; clear hS; go_simp; exact hK))
                        (apply wpSt_read; · (intro wd hS K hK; obtain ⟨d0, d1, d2⟩ := hc.out wd hS.2; clear hS; go_simp; exact hK))
                        (apply wpSt_read; · (intro wd hS K hK; obtain ⟨d0, d1, d2⟩ := hc.out wd hS.2; clear hS; go_simp; exact hK))
                        (apply wpSt_read; · (intro wd hS K hK; obtain ⟨d0, d1, d2⟩ := hc.out wd hS.2; clear hS; go_simp; exact hK))
                        (apply wpSt_read; · (intro wd hS K hK; obtain ⟨d0, d1, d2⟩ := hc.out wd hS.2; clear hS; go_simp; exact hK))
                        refine wpSt_keep (fun K hK => ?_)
                        go_wp2_with (first
                          | (go_at_call 44; ((with_reducible refine (hmq.out _).mono ?_); rintro e w9 ⟨rfl, rfl⟩)))
                        refine hK _ _ ⟨hI8, hB8⟩ rfl ?_
                        clear hK K
                        have hs8 := hB8.size
                        refine wpSt_keep (fun K hK => ?_)
                        go_wp2
                        refine hK _ _ ⟨hI8.alloc _, hB8.alloc hs8 _⟩ rfl ?_
                        clear hK K
                        refine wpSt_nil ?_
                        go_wp2_with (first
                          | (refine wpList_append_ints rfl (.tmp 103) (.tmp 120) rfl wj.heap.size g cap (L1.take q) nv (by rw [ival, htl]; rfl) (hI8.alloc _) ⟨w8.heap.size, 0, none⟩ 1 rfl ((Own.new _ _ _).cell 0) (by rw [htl]; omega) (by simp; omega) ?_; intro g3 cap3 w3 hI3 hG3; rw [← hlt'.out] at hI3 ⊢; rw [ival, List.length_take, Nat.min_eq_left (by omega)]))
                        go_roundw
                        case rel => exact ⟨q + 1, g3, cap3, by omega, by go_num, rfl, hI3, (hB8.alloc hs8 _).grown hG3 (by simp; omega) (fun k e => by cases e; exact hgg)⟩
                        case measure => simp [intOf]; omega
                      · have e : n = q := by omega
                        subst e
                        obtain ⟨sp, ho⟩ := hI.row
                        rw [List.take_of_length_le (by omega)] at ho
                        have hTq := htw.out.below hBq
                        have c3' := cell_keep hBq c3
                        have hfr := hTq.free j
                        have hput := Lib.hid (hTq.put j g cap L1 sp hjn hrdl ho)
                        have hbig := Lib.hid ((hBw2.out.trans (hBq.mono (show B ≤ wj.heap.size by omega))).setCell (p := ⟨g2, j, none⟩) hB2'.out (.slice (some ⟨g, 0, none⟩) n cap))
                        have hgr' : (hs2.set j (g, cap)).getD r (0, 0) = (gi, ci) := by
                          rw [pair_set _ _ _ _ (by rw [htw.out.lo]; exact hjn), if_neg (by have := hj'.out; omega)]; exact hgr
                        clear hI hBq ho hTq
                        go_wp2
                        go_roundw
                        case rel => exact ⟨m + 1, hs2.set j (g, cap), by omega, by rw [show ((r + 1 + (m + 1) : Nat) : Int) = (j : Int) + 1 by have := hj'.out; omega], hgr', by rw [hus'.out]; exact hput.out, hbig.out⟩
                        case measure => simp [intOf]; omega
                · obtain rfl : m = M := by omega
                  have hok3 := Lib.hid (updM_ok p2 hok1.out r c rc own m (by omega))
                  have hr3 := Lib.hid (show resM p n (n - (c + 1)) ((updM p n r c rc own R1 m).drop (r + 1)) f2 = A ∧ rkM p n (n - (c + 1)) ((updM p n r c rc own R1 m).drop (r + 1)) (r + 1) = K from ⟨by rw [hfin.out, show n - (c + 1) = F by omega, hresN.out.1], by rw [hfin.out, show n - (c + 1) = F by omega, hresN.out.2]⟩)
                  have jN : ¬ (j : Int) < (n : Int) := by omega
                  clear hfin hresN hj
                  go_wp2
                  go_roundw
                  case rel => exact ⟨c + 1, r + 1, f2, hs2, _, by omega, by omega, rfl, by go_num, by go_num, f2b.1, by omega, hT, hok3, hr3, hB⟩
                  case measure => simp [intOf]; omega
            · have bE : ((i : Int) == (r : Int)) = false := by simp; omega
              rw [if_neg (fun h => hir (hbr.2 h))] at hsd
              have hmf := Lib.hid (fun w1 => (hmd.out (-d * x) w1 (by omega) (by omega)).mono fun e w' h => (show e = .returned (.int .i64 f2) ∧ w1 = w' from ⟨by rw [hsd]; exact h.1, h.2.symm⟩))
              obtain ⟨⟨gr, cr⟩, hgr⟩ : ∃ y, hs.getD r (0, 0) = y := ⟨_, rfl⟩
              have hrn : r < n := by omega
              have c3 := hT.head r hrn
              rw [hgr] at c3
              dsimp only at c3
              have hTs := Lib.hid (hT.swap i r hin' hrn hir gi ci gr cr hgi hgr)
              have hBs := Lib.hid ((hB.setCell (p := ⟨g2, i, none⟩) hB2'.out (.slice (some ⟨gr, 0, none⟩) n cr)).setCell (p := ⟨g2, r, none⟩) hB2'.out (.slice (some ⟨gi, 0, none⟩) n ci))
              have ff1 := hT.free i
              have ff2 : (wr.setCell ⟨g2, i, none⟩ (.slice (some ⟨gr, 0, none⟩) n cr)).frozen? ⟨g2, r, none⟩ = false := by
                obtain ⟨cs, a, _, _⟩ := hT.mem
                exact (a.set i _).free r
              have cc3 : (wr.setCell ⟨g2, i, none⟩ (.slice (some ⟨gr, 0, none⟩) n cr)).cell? ⟨g2, r, none⟩ = some (.slice (some ⟨gr, 0, none⟩) n cr) := by
                obtain ⟨cs, a, _, _⟩ := hT.mem
                rw [(a.set i _).cell r, Array.getElem?_setIfInBounds_ne hir, ← a.cell r]
                exact c3
              have hgi1 : ((hs.set i (gr, cr)).set r (gi, ci)).getD r (0, 0) = (gi, ci) := by
                rw [pair_set _ _ _ _ (by rw [List.length_set, hT.lo]; exact hrn), if_pos rfl]
              clear hsd hgi hgr hi hownn hbr hbe hok hlenR hir fv1 fv2 hT hB
              go_upto_region 15 with fail
              have hT := hTs.out
              have hB := hBs.out
              clear c1 c2 c3 cc3 ff1 ff2 hTs hBs
              generalize ((wr.setCell ⟨g2, i, none⟩ (.slice (some ⟨gr, 0, none⟩) n cr)).setCell ⟨g2, r, none⟩ (.slice (some ⟨gi, 0, none⟩) n ci)) = wz at *
              obtain ⟨hs1, hhs1⟩ : ∃ y, (hs.set i (gr, cr)).set r (gi, ci) = y := ⟨_, rfl⟩
              obtain ⟨R1, hR1⟩ : ∃ y, swp R r i = y := ⟨_, rfl⟩
              rw [hR1] at howns hoks hlens hfin hT
              rw [hhs1] at hgi1 hT
              have c2 := hT.num r c hrn hcn
              rw [hgi1, howns, hxx] at c2
              dsimp only at c2
              have hok1 := Lib.hid hoks
              clear hR1 hhs1 hoks
              go_upto_region 17 with (first
                | (go_at_call 44; ((with_reducible refine (hmf.out _).mono ?_); rintro e w4 ⟨rfl, rfl⟩))
                | (go_at_call 45; ((with_reducible refine (hin.out _).mono ?_); rintro e w5 ⟨rfl, rfl⟩)))
              clear c2 hmf hin
              have hBs := hB.size
              have hm1 := mk1i
              go_wp2
              go_loopw [13] (fun iv wj => ∃ (m : Nat) (hs2 : List (Nat × Nat)), m ≤ M ∧ iv = .int .i64 ((r + 1 + m : Nat) : Int) ∧ hs2.getD r (0, 0) = (gi, ci) ∧ Tbm wj g2 n n hs2 (updM p n r c rc own R1 m) ∧ Below B w wj) (fun iv _ => ((n : Int) - intOf iv).toNat)
              case atStart => exact ⟨0, hs1, Nat.zero_le _, by go_num, hgi1, hT, hB⟩
              case round =>
                clear hT hB hBs
                obtain ⟨m, hs2, hm, rfl, hgr, hT, hB⟩ := hrel
                obtain ⟨j, hj⟩ : ∃ j, r + 1 + m = j := ⟨_, rfl⟩
                rw [hj]
                have hj' := Lib.hid hj
                by_cases hmM : m < M
                · have hjn : j < n := by omega
                  have jI : (j : Int) < (n : Int) := by omega
                  have hgrow : rw' (updM p n r c rc own R1 m) r = own := by
                    rw [updM_get _ _ _ _ _ _ _ _ _ (by omega), if_neg (by omega)]; exact howns
                  have hrow : rw' (updM p n r c rc own R1 m) j = rw' R1 j := by
                    rw [updM_get _ _ _ _ _ _ _ _ _ (by omega), if_neg (by omega)]
                  have hoku := updM_ok p2 hok1.out r c rc own m (by omega)
                  have hul : (updM p n r c rc own R1 m).length = n := by rw [updM_len]; exact hlens
                  have hus : updM p n r c rc own R1 (m + 1) = (updM p n r c rc own R1 m).set j (red p n c rc own (rw' (updM p n r c rc own R1 m) j)) := by rw [hrow, updM, hj]
                  obtain ⟨R2, hR2⟩ : ∃ y, updM p n r c rc own R1 m = y := ⟨_, rfl⟩
                  rw [hR2] at hT hoku hus hgrow hul
                  have hrl := hT.len j hjn
                  have hrb := fun q hq => hoku.bd j q (by omega) hq
                  have hown0 := hok1.out.bd r
                  have howl := hT.len r (by omega)
                  rw [howns] at hown0
                  rw [hgrow] at howl
                  have c3 := hT.head j hjn
                  have c4 := hT.num j c hjn hcn
                  have hnr := Lib.hid (fun q hq => hT.num r q (show r < n by omega) hq)
                  have hnj := Lib.hid (fun q hq => hT.num j q hjn hq)
                  obtain ⟨⟨gj, cj⟩, hgj⟩ : ∃ y, hs2.getD j (0, 0) = y := ⟨_, rfl⟩
                  rw [hgj] at c3 c4 hnj
                  rw [hgr, hgrow] at hnr
                  dsimp only at c3 c4 hnr hnj
                  have hz := red_zero p n c rc own (rw' R2 j) hrl (fun q hq => hrb q hq)
                  have hrg := Lib.hid (fun q hq => red_get p n c rc own (rw' R2 j) q hq)
                  have hrdl := red_len p n c rc own (rw' R2 j)
                  have hset : R2.set j (rw' R2 j) = R2 := by
                    refine List.ext_getElem (by simp) (fun q h1 h2 => ?_)
                    rw [List.getElem_set]
                    by_cases e : j = q
                    · subst e
                      rw [if_pos rfl]
                      unfold rw'
                      rw [List.getD_eq_getElem?_getD, List.getElem?_eq_getElem h2]; rfl
                    · rw [if_neg e]
                  obtain ⟨row, hrw⟩ : ∃ y, rw' R2 j = y := ⟨_, rfl⟩
                  rw [hrw] at hrl hrb c4 hz hrg hrdl hset hus hnj
                  have yb := hrb c hcn
                  obtain ⟨y, hy⟩ : ∃ y, row.getD c 0 = y := ⟨_, rfl⟩
                  rw [hy] at c4 hz hrg yb
                  obtain ⟨yb0, yb1⟩ := yb
                  have yn := Int.mul_nonneg yb0 (show 0 ≤ rc by omega)
                  have yr := mul_bd' y rc yb0 (by omega) (by omega) (by omega)
                  obtain ⟨yr1, yr2, _, _⟩ := yr
                  have tm : (y * rc).tmod p = y * rc % p := Int.tmod_eq_emod_of_nonneg yn
                  have tb0 := Int.emod_nonneg (y * rc) (show p ≠ 0 by omega)
                  have tb1 := Int.emod_lt_of_pos (y * rc) (show 0 < p by omega)
                  obtain ⟨fc, hfc⟩ : ∃ z, y * rc % p = z := ⟨_, rfl⟩
                  rw [hfc] at tm hz hrg tb0 tb1
                  have pz : (p == 0) = false := by simp; omega
                  have hBj := hB.size
                  clear hR2 hrow hoku hgrow hj hy hrw yn hfc hgj hul
                  by_cases hf0 : fc = 0
                  · have K2 : updM p n r c rc own R1 (m + 1) = R2 := by rw [hus, hz hf0, hset]
                    rw [hf0] at tm
                    have K1 := Lib.hid (show Tbm (wr.alloc (.cells #[] 2)) g2 n n hs2 (updM p n r c rc own R1 (m + 1)) by rw [K2]; exact hT.alloc _)
                    have K3 := Lib.hid (hB.alloc (show B ≤ wr.heap.size by omega) (.cells #[] 2))
                    clear hz hset hf0 hus K2 hT hB tb0 tb1
                    go_wp2
                    go_roundw
                    case rel => exact ⟨m + 1, hs2, by omega, by rw [show ((r + 1 + (m + 1) : Nat) : Int) = (j : Int) + 1 by have := hj'.out; omega], hgr, K1.out, K3.out⟩
                    case measure => simp [intOf]; omega
                  · have fz : (fc == 0) = false := by simpa using hf0
                    obtain ⟨L1, hL1⟩ : ∃ z, red p n c rc own row = z := ⟨_, rfl⟩
                    rw [hL1] at hus hrdl hrg
                    obtain ⟨wj, rfl⟩ : ∃ x, x = wr := ⟨_, rfl⟩
                    have htw := Lib.hid hT
                    have hBw2 := Lib.hid hB
                    have hus' := Lib.hid hus
                    clear hz hset hf0 hL1 hus hT hB
                    go_wp2
                    go_loopw [15, 16] (fun nx jv wq => ∃ (q g cap : Nat), q ≤ n ∧ jv = .int .i64 q ∧ nx = .slice (some ⟨g, 0, none⟩) q cap ∧ Ints wq wj.heap.size g cap (L1.take q) ∧ Below wj.heap.size wj wq) (fun _ jv _ => ((n : Int) - intOf jv).toNat)
                    case atStart => exact ⟨0, wj.heap.size, 0, by omega, rfl, rfl, Ints.new wj _ _ 0 (Nat.le_refl _) rfl (by decide) _ rfl, (Below.refl _ _).alloc (Nat.le_refl _) _⟩
                    case round =>
                      obtain ⟨q, g, cap, hq, rfl, rfl, hI, hBq⟩ := hrel
                      by_cases hqn : q < n
                      · have qI : (q : Int) < (n : Int) := by omega
                        have zb := hrb q hqn
                        have ob := hown0 q (by omega) hqn
                        have hval := hrg.out q hqn
                        have c5 := hnj.out q hqn
                        have c6 := hnr.out q hqn
                        have hlt := tak_succ L1 q (by omega)
                        obtain ⟨z, hz⟩ : ∃ y, row.getD q 0 = y := ⟨_, rfl⟩
                        obtain ⟨o, ho⟩ : ∃ y, own.getD q 0 = y := ⟨_, rfl⟩
                        obtain ⟨nv, hnv⟩ : ∃ y, L1.getD q 0 = y := ⟨_, rfl⟩
                        rw [hz] at zb hval c5
                        rw [ho] at ob hval c6
                        rw [hnv] at hval hlt
                        have hlt' := Lib.hid hlt
                        obtain ⟨ob0, ob1⟩ := ob
                        obtain ⟨zb0, zb1⟩ := zb
                        have fo := mul_bd' fc o tb0 (by omega) ob0 (by omega)
                        obtain ⟨fo1, fo2, _, _⟩ := fo
                        have hmq := Lib.hid (fun w1 => (hmd.out (z - fc * o) w1 (by omega) (by omega)).mono fun e w' h => (show e = .returned (.int .i64 nv) ∧ w1 = w' from ⟨by rw [hval]; exact h.1, h.2.symm⟩))
                        have hc := Lib.hid (show ∀ x : World, Below wj.heap.size wj x → x.cell? ⟨g2, j, none⟩ = some (.slice (some ⟨gj, 0, none⟩) n cj) ∧ x.cell? ⟨gj, q, none⟩ = some (.int .i64 z) ∧ x.cell? ⟨gi, q, none⟩ = some (.int .i64 o) from fun x h => ⟨cell_keep h c3, cell_keep h c5, cell_keep h c6⟩)
                        have htl : (L1.take q).length = q := by rw [List.length_take]; omega
                        have hgg := hI.1
                        have hBqs := hBq.size
                        clear hval hz ho hnv hlt c5 c6
                        go_wp2
                        refine wp_region_st (fun x => Ints x wj.heap.size g cap (L1.take q) ∧ Below wj.heap.size wj x) [(true, 0), (true, 1), (true, 2), (true, 3), (true, 4), (true, 5), (true, 6), (true, 7), (true, 8), (true, 9), (true, 10), (true, 11), (true, 12), (true, 13), (true, 14), (true, 15), (false, 16), (false, 17)] 18 (by kernel_rfl) (by kernel_rfl) ⟨hI.drewN 1, Below.drewN hBq 1⟩ ?_
                        simp only [List.map_cons, List.map_nil, opS'_mk, opN_zero, opN_succ, List.drop_succ_cons, List.drop_zero]
                        have hI8 := hI.drewN 1
                        have hB8 := Below.drewN hBq 1
                        change Ints { wr with drawn := wr.drawn + 1 } _ _ _ _ at hI8
                        change Below _ _ { wr with drawn := wr.drawn + 1 } at hB8
                        clear hI hBq
                        generalize ({ wr with drawn := wr.drawn + 1 } : World) = w8 at *
                        (apply wpSt_read; · (intro wd hS K hK; obtain ⟨d0, d1, d2⟩ := hc.out wd hS.2; clear hS; go_simp; exact hK))
                        (apply wpSt_read; · (intro wd hS K hK; obtain ⟨d0, d1, d2⟩ := hc.out wd hS.2; clear hS; go_simp; exact hK))
                        (apply wpSt_read; · (intro wd hS K hK; obtain ⟨d0, d1, d2⟩ := hc.out wd hS.2; clear hS; go_simp; exact hK))
                        (apply wpSt_read; · (intro wd hS K hK; obtain ⟨d0, d1, d2⟩ := hc.out wd hS.2; clear hS; go_simp; exact hK))
                        (apply wpSt_read; · (intro wd hS K hK; obtain ⟨d0, d1, d2⟩ := hc.out wd hS.2; clear hS; go_simp; exact hK))
                        (apply wpSt_read; · (intro wd hS K hK; obtain ⟨d0, d1, d2⟩ := hc.out wd hS.2; clear hS; go_simp; exact hK))
                        (apply wpSt_read; · (intro wd hS K hK; obtain ⟨d0, d1, d2⟩ := hc.out wd hS.2; clear hS; go_simp; exact hK))
                        (apply wpSt_read; · (intro wd hS K hK; obtain ⟨d0, d1, d2⟩ := hc.out wd hS.2; clear hS; go_simp; exact hK))
                        (apply wpSt_read; · (intro wd hS K hK; obtain ⟨d0, d1, d2⟩ := hc.out wd hS.2; clear hS; go_simp; exact hK))
                        (apply wpSt_read; · (intro wd hS K hK; obtain ⟨d0, d1, d2⟩ := hc.out wd hS.2; clear hS; go_simp; exact hK))
                        (apply wpSt_read; · (intro wd hS K hK; obtain ⟨d0, d1, d2⟩ := hc.out wd hS.2; clear hS; go_simp; exact hK))
                        (apply wpSt_read; · (intro wd hS K hK; obtain ⟨d0, d1, d2⟩ := hc.out wd hS.2; clear hS; go_simp; exact hK))
                        (apply wpSt_read; · (intro wd hS K hK; obtain ⟨d0, d1, d2⟩ := hc.out wd hS.2; clear hS; go_simp; exact hK))
                        (apply wpSt_read; · (intro wd hS K hK; obtain ⟨d0, d1, d2⟩ := hc.out wd hS.2; clear hS; go_simp; exact hK))
                        (apply wpSt_read; · (intro wd hS K hK; obtain ⟨d0, d1, d2⟩ := hc.out wd hS.2; clear hS; go_simp; exact hK))
                        (apply wpSt_read; · (intro wd hS K hK; obtain ⟨d0, d1, d2⟩ := hc.out wd hS.2; clear hS; go_simp; exact hK))
                        refine wpSt_keep (fun K hK => ?_)
                        go_wp2_with (first
                          | (go_at_call 44; ((with_reducible refine (hmq.out _).mono ?_); rintro e w9 ⟨rfl, rfl⟩)))
                        refine hK _ _ ⟨hI8, hB8⟩ rfl ?_
                        clear hK K
                        have hs8 := hB8.size
                        refine wpSt_keep (fun K hK => ?_)
                        go_wp2
                        refine hK _ _ ⟨hI8.alloc _, hB8.alloc hs8 _⟩ rfl ?_
                        clear hK K
                        refine wpSt_nil ?_
                        go_wp2_with (first
                          | (refine wpList_append_ints rfl (.tmp 103) (.tmp 120) rfl wj.heap.size g cap (L1.take q) nv (by rw [ival, htl]; rfl) (hI8.alloc _) ⟨w8.heap.size, 0, none⟩ 1 rfl ((Own.new _ _ _).cell 0) (by rw [htl]; omega) (by simp; omega) ?_; intro g3 cap3 w3 hI3 hG3; rw [← hlt'.out] at hI3 ⊢; rw [ival, List.length_take, Nat.min_eq_left (by omega)]))
                        go_roundw
                        case rel => exact ⟨q + 1, g3, cap3, by omega, by go_num, rfl, hI3, (hB8.alloc hs8 _).grown hG3 (by simp; omega) (fun k e => by cases e; exact hgg)⟩
                        case measure => simp [intOf]; omega
                      · have e : n = q := by omega
                        subst e
                        obtain ⟨sp, ho⟩ := hI.row
                        rw [List.take_of_length_le (by omega)] at ho
                        have hTq := htw.out.below hBq
                        have c3' := cell_keep hBq c3
                        have hfr := hTq.free j
                        have hput := Lib.hid (hTq.put j g cap L1 sp hjn hrdl ho)
                        have hbig := Lib.hid ((hBw2.out.trans (hBq.mono (show B ≤ wj.heap.size by omega))).setCell (p := ⟨g2, j, none⟩) hB2'.out (.slice (some ⟨g, 0, none⟩) n cap))
                        have hgr' : (hs2.set j (g, cap)).getD r (0, 0) = (gi, ci) := by
                          rw [pair_set _ _ _ _ (by rw [htw.out.lo]; exact hjn), if_neg (by have := hj'.out; omega)]; exact hgr
                        clear hI hBq ho hTq
                        go_wp2
                        go_roundw
                        case rel => exact ⟨m + 1, hs2.set j (g, cap), by omega, by rw [show ((r + 1 + (m + 1) : Nat) : Int) = (j : Int) + 1 by have := hj'.out; omega], hgr', by rw [hus'.out]; exact hput.out, hbig.out⟩
                        case measure => simp [intOf]; omega
                · obtain rfl : m = M := by omega
                  have hok3 := Lib.hid (updM_ok p2 hok1.out r c rc own m (by omega))
                  have hr3 := Lib.hid (show resM p n (n - (c + 1)) ((updM p n r c rc own R1 m).drop (r + 1)) f2 = A ∧ rkM p n (n - (c + 1)) ((updM p n r c rc own R1 m).drop (r + 1)) (r + 1) = K from ⟨by rw [hfin.out, show n - (c + 1) = F by omega, hresN.out.1], by rw [hfin.out, show n - (c + 1) = F by omega, hresN.out.2]⟩)
                  have jN : ¬ (j : Int) < (n : Int) := by omega
                  clear hfin hresN hj
                  go_wp2
                  go_roundw
                  case rel => exact ⟨c + 1, r + 1, f2, hs2, _, by omega, by omega, rfl, by go_num, by go_num, f2b.1, by omega, hT, hok3, hr3, hB⟩
                  case measure => simp [intOf]; omega
        · have hkE : k = L := by omega
          have hbe : b' = L := by have := hbk.out; rw [hkE, Nat.sub_self, hst0.out] at this; exact this.symm
          have iI : ¬ (i : Int) < (n : Int) := by omega
          have iE : ((i : Int) == (n : Int)) = true := by simp; omega
          have K1 := Lib.hid (show resM p n (n - (c + 1)) (R.drop r) 0 = A ∧ rkM p n (n - (c + 1)) (R.drop r) r = K by rw [show n - (c + 1) = F by omega]; have := hres'.out; rw [if_pos hbe, if_pos hbe] at this; exact ⟨this.1.symm, this.2.symm⟩)
          clear hbk hbe hi hres'
          go_wp2
          go_roundw
          case rel => exact ⟨c + 1, r, 0, hs, R, by omega, hr, rfl, rfl, by go_num, by omega, by omega, hT, hok, K1, hB⟩
          case measure => simp [intOf]; omega
    · have e : c = n := by omega
      subst e
      have hend := Lib.hid (show A = d ∧ r = K by have := hW.out; rw [Nat.sub_self] at this; exact ⟨this.1.symm, this.2⟩)
      have hmd2 := Lib.hid (fun w => hmd.out d w (by omega) (by omega))
      clear hT hW hok hmd
      go_wp2_with (first
        | (go_at_call 44; ((with_reducible refine (hmd2.out _).mono ?_); rintro e w4 ⟨rfl, rfl⟩)))
      go_ret2
      exact ⟨by rw [hend.out.1, ← hend.out.2]; rfl, hB⟩
end Go.Proofs.YtideboicnaaojaaDoor
