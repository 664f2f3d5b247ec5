/- The table of the numbers of components: the model's. -/
import Derived.Test.YthofkmndgedkgaaRws
import Derived.Test.YthofkmndgedkgaaOn
namespace Go.Proofs.Ythofkmndgedkgaa
open Go.RowKit Go.BigFrame
set_option linter.unusedVariables false
set_option linter.unusedSimpArgs false
set_option maxRecDepth 100000 in
set_option maxHeartbeats 4000000 in
theorem tbS_ok (m : Nat) (h1 : 1 ≤ m) (h6 : m ≤ 6) (n : Nat) (hn : (allH (2 * m) 0).length = n) (w : World) :
    Calls Try.prog 74 #[.int .i64 m] w fun e w' => ∃ v vs, e = .returned v ∧ Rws w' w.heap.size v vs ∧ vs.length = n ∧ RwT w' w.heap.size m (allH (2 * m) 0) n vs n ∧ Below w.heap.size w w' := by
  have hlen := allH_len12 m h1 h6
  rw [hn] at hlen
  have hL := Lib.hid (fun w => (allS_ok m h1 h6 w).mono fun e w' (h : TxPost w.heap.size [] (allH (2 * m) 0) w e w') => show ∃ g cap, e = .returned (.slice (some ⟨g, 0, none⟩) n cap) ∧ TMn w' w.heap.size (some ⟨g, 0, none⟩) (bsl (allH (2 * m) 0)) ∧ Below w.heap.size w w' from by
    obtain ⟨g, cap, rfl, hI, hB⟩ := h
    rw [List.nil_append] at hI ⊢
    exact ⟨g, cap, by rw [stval, bsl_len, hn], TMn.strs (Nat.le_refl _) hI, hB⟩)
  have hS := Lib.hid (fun k hk => all_sys m h1 h6 k hk)
  have HN := Lib.hid hn
  have HG := Lib.hid (fun j h => bsl_get (allH (2 * m) 0) j h)
  generalize allH (2 * m) 0 = LL at *
  clear hn
  go_enter Try.func74, Try.ntmps74
  go_wp2_with (first
    | (go_at_call 65; ((with_reducible refine (hL.out _).mono ?_); rintro e w1 ⟨gl, capl, rfl, hT, hB1⟩)))
  have HT1 := Lib.hid hT.rd
  have hs1 := hB1.size
  go_loopw [4, 5] (fun o i wr => ∃ (k : Nat) (vs : List Value), k ≤ n ∧ i = .int .i64 k ∧ vs.length = k ∧ Rws wr w1.heap.size o vs ∧ RwT wr w1.heap.size m LL n vs k ∧ Below w1.heap.size w1 wr) (fun _ i _ => ((n : Int) - intOf i).toNat)
  case atStart => exact ⟨0, [], by omega, rfl, rfl, Rws.new w1 _ (Nat.le_refl _), fun i hi => by omega, (Below.refl _ _).alloc (Nat.le_refl _) _⟩
  case round =>
    obtain ⟨k, vs, hk, rfl, hvs, hR, hRT, hB⟩ := hrel
    by_cases hlt : k < n
    · have hk1 := Lib.hid (show k < (bsl LL).length by rw [bsl_len, HN.out]; exact hlt)
      obtain ⟨p1, p2⟩ := hS.out k (by rw [HN.out]; exact hlt)
      have HG1 := HG.out k (by rw [HN.out]; exact hlt)
      obtain ⟨sA, hsA⟩ : ∃ s, bsv (LL.getD k []) = s := ⟨_, rfl⟩
      rw [hsA] at HG1
      have HG1 := Lib.hid HG1
      have HSA := Lib.hid hsA
      clear hsA
      have i1 : (k : Int) < (n : Int) := by omega
      obtain ⟨w2, rfl⟩ : ∃ x, x = wr := ⟨_, rfl⟩
      have HT := Lib.hid (HT1.out.below hB)
      have HR := Lib.hid hR
      have HRT := Lib.hid hRT
      have HB := Lib.hid hB
      have hs2 := hB.size
      clear hR hRT hB
      go_wp2
      go_loopw [6, 7] (fun s j wr => ∃ (q g cap : Nat), q ≤ n ∧ j = .int .i64 q ∧ s = .slice (some ⟨g, 0, none⟩) q cap ∧ Ints wr w2.heap.size g cap (rwN m LL k q) ∧ Below w2.heap.size w2 wr) (fun _ j _ => ((n : Int) - intOf j).toNat)
      case atStart => exact ⟨0, w2.heap.size, 0, by omega, rfl, rfl, Ints.new w2 _ _ 0 (Nat.le_refl _) rfl (by decide) _ rfl, (Below.refl _ _).alloc (Nat.le_refl _) _⟩
      case round =>
        obtain ⟨q, g, cap, hq, rfl, rfl, hI, hB⟩ := hrel
        by_cases hlt2 : q < n
        · have hq1 := Lib.hid (show q < (bsl LL).length by rw [bsl_len, HN.out]; exact hlt2)
          obtain ⟨p3, p4⟩ := hS.out q (by rw [HN.out]; exact hlt2)
          have HG2 := HG.out q (by rw [HN.out]; exact hlt2)
          obtain ⟨sB, hsB⟩ : ∃ s, bsv (LL.getD q []) = s := ⟨_, rfl⟩
          rw [hsB] at HG2
          have HG2 := Lib.hid HG2
          have i2 : (q : Int) < (n : Int) := by omega
          have hC := fun w => cts_any (bsv (LL.getD k [])) (bsv (LL.getD q [])) (by rw [bsv_size]; omega) (by rw [bsv_size]; omega) (sysO (LL.getD k [])) (sysO (LL.getD q [])) (by rw [bsv_list]; exact p1) (by rw [bsv_list]; exact p3) (2 * m) (by rw [bsv_size]; exact p2) (by rw [bsv_size]; exact p4) w
          simp only [HSA.out, hsB] at hC
          have hC := Lib.hid (show ∀ w, Calls Try.prog 69 #[.string sA, .string sB] w fun e w' => e = .returned (.int .i64 (tbN m LL k q : Nat)) ∧ Below w.heap.size w w' from hC)
          have hst := Lib.hid (show rwN m LL k (q + 1) = rwN m LL k q ++ [(tbN m LL k q : Int)] from rfl)
          obtain ⟨x, hx⟩ : ∃ x, tbN m LL k q = x := ⟨_, rfl⟩
          rw [hx] at hC hst
          clear p3 p4 hx hsB
          have hln := Lib.hid (rwN_len m LL k q)
          go_wp2
          refine wp_region_on (fun w' => Ints w' w2.heap.size g cap (rwN m LL k q) ∧ Below w2.heap.size w2 w') [0, 1, 2, 3, 4, 5, 6, 7, 8] [9, 10] 11 (by kernel_rfl) (by kernel_rfl) ⟨hI.drewN 1, Below.drewN hB 1⟩ ?_
          simp only [List.map_cons, List.map_nil, opN_zero, opN_succ, List.drop_succ_cons, List.drop_zero]
          have hg0 := hI.1
          clear hI hB
          (apply wpOn_step; · (intro wd hS K hK; have d1 := (HT.out.below hS.2).cell _ rfl k hk1.out; have d2 := (HT.out.below hS.2).cell _ rfl q hq1.out; rw [HG1.out, show (⟨gl, 0, none⟩ : Addr).add k = ⟨gl, k, none⟩ by rw [Addr.add_mid, Nat.zero_add]] at d1; rw [HG2.out, show (⟨gl, 0, none⟩ : Addr).add q = ⟨gl, q, none⟩ by rw [Addr.add_mid, Nat.zero_add]] at d2; clear hS; go_simp; exact hK))
          (apply wpOn_step; · (intro wd hS K hK; have d1 := (HT.out.below hS.2).cell _ rfl k hk1.out; have d2 := (HT.out.below hS.2).cell _ rfl q hq1.out; rw [HG1.out, show (⟨gl, 0, none⟩ : Addr).add k = ⟨gl, k, none⟩ by rw [Addr.add_mid, Nat.zero_add]] at d1; rw [HG2.out, show (⟨gl, 0, none⟩ : Addr).add q = ⟨gl, q, none⟩ by rw [Addr.add_mid, Nat.zero_add]] at d2; clear hS; go_simp; exact hK))
          (apply wpOn_step; · (intro wd hS K hK; have d1 := (HT.out.below hS.2).cell _ rfl k hk1.out; have d2 := (HT.out.below hS.2).cell _ rfl q hq1.out; rw [HG1.out, show (⟨gl, 0, none⟩ : Addr).add k = ⟨gl, k, none⟩ by rw [Addr.add_mid, Nat.zero_add]] at d1; rw [HG2.out, show (⟨gl, 0, none⟩ : Addr).add q = ⟨gl, q, none⟩ by rw [Addr.add_mid, Nat.zero_add]] at d2; clear hS; go_simp; exact hK))
          (apply wpOn_step; · (intro wd hS K hK; have d1 := (HT.out.below hS.2).cell _ rfl k hk1.out; have d2 := (HT.out.below hS.2).cell _ rfl q hq1.out; rw [HG1.out, show (⟨gl, 0, none⟩ : Addr).add k = ⟨gl, k, none⟩ by rw [Addr.add_mid, Nat.zero_add]] at d1; rw [HG2.out, show (⟨gl, 0, none⟩ : Addr).add q = ⟨gl, q, none⟩ by rw [Addr.add_mid, Nat.zero_add]] at d2; clear hS; go_simp; exact hK))
          (apply wpOn_step; · (intro wd hS K hK; have d1 := (HT.out.below hS.2).cell _ rfl k hk1.out; have d2 := (HT.out.below hS.2).cell _ rfl q hq1.out; rw [HG1.out, show (⟨gl, 0, none⟩ : Addr).add k = ⟨gl, k, none⟩ by rw [Addr.add_mid, Nat.zero_add]] at d1; rw [HG2.out, show (⟨gl, 0, none⟩ : Addr).add q = ⟨gl, q, none⟩ by rw [Addr.add_mid, Nat.zero_add]] at d2; clear hS; go_simp; exact hK))
          (apply wpOn_step; · (intro wd hS K hK; have d1 := (HT.out.below hS.2).cell _ rfl k hk1.out; have d2 := (HT.out.below hS.2).cell _ rfl q hq1.out; rw [HG1.out, show (⟨gl, 0, none⟩ : Addr).add k = ⟨gl, k, none⟩ by rw [Addr.add_mid, Nat.zero_add]] at d1; rw [HG2.out, show (⟨gl, 0, none⟩ : Addr).add q = ⟨gl, q, none⟩ by rw [Addr.add_mid, Nat.zero_add]] at d2; clear hS; go_simp; exact hK))
          (apply wpOn_step; · (intro wd hS K hK; have d1 := (HT.out.below hS.2).cell _ rfl k hk1.out; have d2 := (HT.out.below hS.2).cell _ rfl q hq1.out; rw [HG1.out, show (⟨gl, 0, none⟩ : Addr).add k = ⟨gl, k, none⟩ by rw [Addr.add_mid, Nat.zero_add]] at d1; rw [HG2.out, show (⟨gl, 0, none⟩ : Addr).add q = ⟨gl, q, none⟩ by rw [Addr.add_mid, Nat.zero_add]] at d2; clear hS; go_simp; exact hK))
          (apply wpOn_step; · (intro wd hS K hK; have d1 := (HT.out.below hS.2).cell _ rfl k hk1.out; have d2 := (HT.out.below hS.2).cell _ rfl q hq1.out; rw [HG1.out, show (⟨gl, 0, none⟩ : Addr).add k = ⟨gl, k, none⟩ by rw [Addr.add_mid, Nat.zero_add]] at d1; rw [HG2.out, show (⟨gl, 0, none⟩ : Addr).add q = ⟨gl, q, none⟩ by rw [Addr.add_mid, Nat.zero_add]] at d2; clear hS; go_simp; exact hK))
          (apply wpOn_step; · (intro wd hS K hK; have d1 := (HT.out.below hS.2).cell _ rfl k hk1.out; have d2 := (HT.out.below hS.2).cell _ rfl q hq1.out; rw [HG1.out, show (⟨gl, 0, none⟩ : Addr).add k = ⟨gl, k, none⟩ by rw [Addr.add_mid, Nat.zero_add]] at d1; rw [HG2.out, show (⟨gl, 0, none⟩ : Addr).add q = ⟨gl, q, none⟩ by rw [Addr.add_mid, Nat.zero_add]] at d2; clear hS; go_simp; exact hK))
          refine wpOn_nil ?_
          rintro w8 ⟨hI8, hB8⟩
          refine wpMid_step (fun K hK => ?_)
          go_wp2_with (first
            | (go_at_call 69; ((with_reducible refine (hC.out w8).mono ?_); rintro e w9 ⟨rfl, hB9⟩)))
          refine hK _ _ ⟨hI8.below hB9 hI8.lt, hB8.trans (hB9.mono hB8.size)⟩ ?_
          clear hK K
          have hI9 := hI8.below hB9 hI8.lt
          have hBx := hB8.trans (hB9.mono hB8.size)
          have hs9 := hBx.size
          clear hI8 hB8 hB9
          refine wpMid_step (fun K hK => ?_)
          go_wp2
          refine hK _ _ ⟨hI9.alloc _, hBx.alloc hs9 _⟩ ?_
          clear hK K
          refine wpMid_nil ?_
          go_wp2_with (first
            | (refine wpList_append_ints rfl (.tmp 24) (.tmp 34) rfl w2.heap.size g cap (rwN m LL k q) (x : Int) (by rw [ival, hln.out]; rfl) (hI9.alloc _) ⟨w9.heap.size, 0, none⟩ 1 rfl ((Own.new _ _ _).cell 0) (by rw [hln.out]; omega) (by simp; omega) ?_; intro g2 cap2 w3 hI3 hG3; rw [← hst.out] at hI3 ⊢; rw [ival, rwN_len]))
          go_roundw
          case rel => exact ⟨q + 1, g2, cap2, by omega, by go_num, rfl, hI3, (hBx.alloc hs9 _).grown hG3 (by simp; omega) (fun k e => by cases e; exact hg0)⟩
          case measure => simp [intOf]; omega
        · have e : q = n := by omega
          subst e
          have HI := Lib.hid hI
          have hsB := hB.size
          have HBI := Lib.hid hB
          have hRc := Lib.hid ((HR.out.below hB).of_same (w' := wr.alloc (.cells #[.slice (some ⟨g, 0, none⟩) q cap] 35)) (fun j _ hj => Below.heap_alloc _ _ _ hj))
          clear hI hB
          go_wp2_with (first
            | (refine wpList_append_rws rfl (.tmp 36) (.tmp 38) rfl w1.heap.size _ vs (some ⟨g, 0, none⟩) q cap rfl hRc.out ⟨wr.heap.size, 0, none⟩ 1 rfl ((Own.new _ _ _).cell 0) (by omega) (by simp; omega) ?_; intro v4 w4 hR4 hG4))
          go_roundw
          case rel =>
            have hty := hRc.out.own_ty
            have keep : ∀ gg cc xs, Ints (wr.alloc (.cells #[.slice (some ⟨g, 0, none⟩) q cap] 35)) w1.heap.size gg cc xs → Ints w4 w1.heap.size gg cc xs := fun gg cc xs h => by
              obtain ⟨a1, a2, a3, cur, a4, a5, a6⟩ := h
              refine ⟨a1, a2, a3, cur, (hG4.block gg a4.lt (fun e => ?_)).trans a4, a5, a6⟩
              obtain ⟨_, cs, hc⟩ := hty gg e.symm
              exact Own.neT a4 hc (by decide) rfl
            have hI5 : Ints (wr.alloc (.cells #[.slice (some ⟨g, 0, none⟩) q cap] 35)) w1.heap.size g cap (rwN m LL k q) := (HI.out.rebase hs2).alloc _
            refine ⟨k + 1, vs ++ [.slice (some ⟨g, 0, none⟩) q cap], by omega, by go_num, by simp [hvs], hR4, fun i hi => ?_, ?_⟩
            · by_cases ei : i = k
              · subst ei
                exact ⟨g, cap, by rw [List.getElem?_append_right (by omega)]; simp [hvs], keep _ _ _ hI5⟩
              · obtain ⟨ga, ca, ga1, ga2⟩ := (HRT.out.below HBI.out) i (by omega)
                exact ⟨ga, ca, by rw [List.getElem?_append_left (by omega)]; exact ga1, keep _ _ _ (ga2.alloc _)⟩
            · exact (((HB.out.trans (HBI.out.mono hs2)).alloc (by omega) _)).grown hG4 (by simp; omega) (fun r e => (hty r (by first | exact e | exact e.symm)).1)
          case measure => simp [intOf]; omega
    · have e : k = n := by omega
      subst e
      go_wp2
      go_ret
      exact ⟨_, vs, rfl, hR.base hs1, hvs, hRT.base hs1, hB1.trans (hB.mono hs1)⟩
end Go.Proofs.Ythofkmndgedkgaa
