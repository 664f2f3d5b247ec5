/- The Gram table: the model's. newTable: the rows of a table lie in one block. A table whose rows lie one behind the other in one block. The Gram table: the program's. -/
import Derived.Test.YtopenojociafaaaDoorGmb
import Derived.Test.YtopenojociafaaaDoorGmc
import Derived.Test.YtopenojociafaaaDoorGma
namespace Go.Proofs.YtopenojociafaaaDoor
open Go.RowKit
set_option linter.unusedVariables false
set_option linter.unusedSimpArgs false
/-- An entry of the table; a row of which q entries are there. -/
def gV (p c : Int) (gd : Nat → Nat → Bool) (lp : Nat → Nat → Nat) (i j : Nat) : Int := if gd i j = true then pw p c (lp i j) else 0
def gL (p c : Int) (gd : Nat → Nat → Bool) (lp : Nat → Nat → Nat) (N i q : Nat) : List Int := (List.range N).map (fun j => if j < q then gV p c gd lp i j else 0)
theorem gL_len (p c : Int) (gd : Nat → Nat → Bool) (lp : Nat → Nat → Nat) (N i q : Nat) : (gL p c gd lp N i q).length = N := by simp [gL]
theorem gL_get (p c : Int) (gd : Nat → Nat → Bool) (lp : Nat → Nat → Nat) (N i q j : Nat) (h : j < N) : (gL p c gd lp N i q).getD j 0 = if j < q then gV p c gd lp i j else 0 := by
  simp [gL, List.getD_eq_getElem?_getD, h]
theorem gL_zero (p c : Int) (gd : Nat → Nat → Bool) (lp : Nat → Nat → Nat) (N i : Nat) : gL p c gd lp N i 0 = List.replicate N 0 := by
  refine list_ext0 (by rw [gL_len, List.length_replicate]) (fun j hj => ?_)
  rw [gL_len] at hj
  rw [gL_get _ _ _ _ _ _ _ _ hj, if_neg (by omega)]
  simp [List.getD_eq_getElem?_getD, List.getElem?_replicate, hj]
theorem gL_step (p c : Int) (gd : Nat → Nat → Bool) (lp : Nat → Nat → Nat) (N i q : Nat) (hq : q < N) : gL p c gd lp N i (q + 1) = (gL p c gd lp N i q).set q (gV p c gd lp i q) := by
  refine list_ext0 (by rw [List.length_set, gL_len, gL_len]) (fun j hj => ?_)
  rw [gL_len] at hj
  rw [gL_get _ _ _ _ _ _ _ _ hj, getD_set _ _ _ _ (by rw [gL_len]; exact hq), gL_get _ _ _ _ _ _ _ _ hj]
  by_cases e : j = q
  · subst e; rw [if_pos rfl, if_pos (by omega)]
  · rw [if_neg e]
    by_cases h : j < q
    · rw [if_pos (by omega), if_pos h]
    · rw [if_neg (by omega), if_neg h]
theorem gL_skip (p c : Int) (gd : Nat → Nat → Bool) (lp : Nat → Nat → Nat) (N i q : Nat) (h : gd i q = false) : gL p c gd lp N i (q + 1) = gL p c gd lp N i q := by
  refine list_ext0 (by rw [gL_len, gL_len]) (fun j hj => ?_)
  rw [gL_len] at hj
  rw [gL_get _ _ _ _ _ _ _ _ hj, gL_get _ _ _ _ _ _ _ _ hj]
  by_cases e : j = q
  · subst e; rw [if_pos (by omega), if_neg (by omega), gV, h]; rfl
  · by_cases h : j < q
    · rw [if_pos (by omega), if_pos h]
    · rw [if_neg (by omega), if_neg h]
theorem ints_of {w : World} {B g : Nat} {xs : List Int} (hB : B ≤ g) (h : Own w g (icells xs) 2) (hl : xs.length ≤ 1000) : Ints w B g xs.length xs :=
  ⟨hB, Nat.le_refl _, by unfold maxLen; omega, _, h, by simp [icells], by simp only [icells, List.toList_toArray]; rw [List.take_of_length_le (by simp)]⟩
set_option maxRecDepth 100000 in
set_option maxHeartbeats 4000000 in
theorem gramS_any (p c : Int) (p2 : 2 ≤ p) (p97 : p ≤ 97) (c0 : 0 ≤ c) (c1 : c < p) (a1 a2 : Int) (N : Nat) (hN : N ≤ 200) (LL : List ByteArray) (hLL : LL.length = N) (gd : Nat → Nat → Bool) (lp : Nat → Nat → Nat) (hlp0 : ∀ i j, i < N → j < N → lp i j ≤ 1000)
    (hL0 : ∀ w, Calls Tryd.prog 43 #[.int .i64 a1, .int .i64 a2] w fun e w' => ∃ g cap, e = .returned (.slice (some ⟨g, 0, none⟩) N cap) ∧ TMn w' w.heap.size (some ⟨g, 0, none⟩) LL ∧ Below w.heap.size w w')
    (hP0 : ∀ i j, i < N → j < N → ∀ w, Calls Tryd.prog 44 #[.string (LL.getD i ByteArray.empty), .string (LL.getD j ByteArray.empty)] w fun e w' => e = .returned (.tuple #[.bool (gd i j), .int .i64 (lp i j : Nat)]) ∧ Below w.heap.size w w')
    (w : World) :
    Calls Tryd.prog 20 #[.int .i64 p, .int .i64 c, .int .i64 a1, .int .i64 a2] w fun e w' => ∃ v vs, e = .returned v ∧ Rws w' w.heap.size v vs ∧ vs.length = N ∧ RwG w' w.heap.size (fun i => gL p c gd lp N i N) N vs N ∧ Dst vs ∧ Below w.heap.size w w' := by
  have hL := Lib.hid hL0
  have hP := Lib.hid hP0
  have hlp := Lib.hid hlp0
  have HN := Lib.hid hLL
  have hpw := Lib.hid (fun (k : Nat) w1 (hk : k ≤ 1000) => powS_any p c k w1 p2 p97 c0 c1 hk)
  have hmk := makeI N (by omega)
  clear hL0 hP0 hlp0 hLL
  go_enter Tryd.func20, Tryd.ntmps20
  go_wp2_with (first
    | (go_at_call 43; ((with_reducible refine (hL.out _).mono ?_); rintro e w1 ⟨gl, capl, rfl, hT, hB1⟩)))
  have HT1 := Lib.hid hT.rd
  have hs1 := hB1.size
  go_loopw [10, 11] (fun o i wr => ∃ (k : Nat) (vs : List Value), k ≤ N ∧ i = .int .i64 k ∧ vs.length = k ∧ Rws wr w1.heap.size o vs ∧ RwG wr w1.heap.size (fun i => gL p c gd lp N i N) N vs k ∧ Dst vs ∧ Below w1.heap.size w1 wr) (fun _ i _ => ((N : Int) - intOf i).toNat)
  case atStart => exact ⟨0, [], by omega, rfl, rfl, Rws.new w1 _ (Nat.le_refl _), fun i hi => by omega, fun i j gi ci gj cj ni nj _ h1 _ => by simp at h1, (Below.refl _ _).alloc (Nat.le_refl _) _⟩
  case round =>
    obtain ⟨k, vs, hk, rfl, hvs, hR, hRT, hDs, hB⟩ := hrel
    by_cases hlt : k < N
    · have hk1 := Lib.hid (show k < LL.length by rw [HN.out]; exact hlt)
      have i1 : (k : Int) < (N : Int) := by omega
      obtain ⟨w2, rfl⟩ : ∃ x, x = wr := ⟨_, rfl⟩
      have HT := Lib.hid (HT1.out.below hB)
      have HR := Lib.hid hR
      have hltb : ∀ i gi ci ni : Nat, vs[i]? = some (.slice (some ⟨gi, 0, none⟩) ni ci) → gi < w2.heap.size := fun i gi ci ni h => by
        by_cases hi : i < vs.length
        · obtain ⟨ga, ca, h1, h2⟩ := hRT i (by omega)
          rw [h1] at h
          have := h2.lt
          simp at h
          omega
        · rw [List.getElem?_eq_none (by omega)] at h
          cases h
      have HDs := Lib.hid hDs
      have HLt := Lib.hid hltb
      have HRT := Lib.hid hRT
      have HB := Lib.hid hB
      have hs2 := hB.size
      obtain ⟨sA, hsA⟩ : ∃ s, LL.getD k ByteArray.empty = s := ⟨_, rfl⟩
      have HG1 := Lib.hid hsA
      have hP2 := Lib.hid (fun j hj => hP.out k j hlt hj)
      rw [hsA] at hP2
      clear hDs hltb hR hRT hB hsA
      go_wp2
      go_loopw [13] (fun j wr => ∃ q : Nat, q ≤ N ∧ j = .int .i64 q ∧ Own wr w2.heap.size (icells (gL p c gd lp N k q)) 2 ∧ Below w2.heap.size w2 wr) (fun j _ => ((N : Int) - intOf j).toNat)
      case atStart => exact ⟨0, by omega, rfl, by rw [gL_zero]; exact Own.new _ _ _, (Below.refl _ _).alloc (Nat.le_refl _) _⟩
      case round =>
        obtain ⟨q, hq, rfl, hO, hB⟩ := hrel
        by_cases hlt2 : q < N
        · have hq1 := Lib.hid (show q < LL.length by rw [HN.out]; exact hlt2)
          have i2 : (q : Int) < (N : Int) := by omega
          obtain ⟨sB, hsB⟩ : ∃ s, LL.getD q ByteArray.empty = s := ⟨_, rfl⟩
          have HG2 := Lib.hid hsB
          have hC := Lib.hid (hP2.out q hlt2)
          rw [hsB] at hC
          have hst := gL_step p c gd lp N k q hlt2
          have hsk := gL_skip p c gd lp N k q
          have hgv : gV p c gd lp k q = if gd k q = true then pw p c (lp k q) else 0 := rfl
          have hpk := Lib.hid (fun w => hpw.out (lp k q) w (hlp.out k q hlt hlt2))
          have hgl := gL_len p c gd lp N k q
          obtain ⟨t, ht⟩ : ∃ t, lp k q = t := ⟨_, rfl⟩
          rw [ht] at hC hpk hgv
          obtain ⟨b, hb⟩ : ∃ b, gd k q = b := ⟨_, rfl⟩
          rw [hb] at hC hsk hgv
          obtain ⟨Lq, hLq⟩ : ∃ L, gL p c gd lp N k q = L := ⟨_, rfl⟩
          rw [hLq] at hst hsk hO hgl
          clear hsB ht hb hLq
          go_wp2
          refine wp_region_st (fun x => Own x w2.heap.size (icells Lq) 2 ∧ Below w2.heap.size w2 x) [(true, 0), (true, 1), (true, 2), (true, 3), (true, 4), (true, 5), (true, 6), (true, 7), (false, 8), (true, 9), (true, 10), (true, 11), (true, 12)] 13 (by kernel_rfl) (by kernel_rfl) ⟨hO.drewN 1, Below.drewN hB 1⟩ ?_
          simp only [List.map_cons, List.map_nil, opS'_mk, opN_zero, opN_succ, List.drop_succ_cons, List.drop_zero]
          have hO8 := hO.drewN 1
          have hB8 := Below.drewN hB 1
          change Own { wr with drawn := wr.drawn + 1 } _ _ _ at hO8
          change Below _ _ { wr with drawn := wr.drawn + 1 } at hB8
          clear hO hB
          generalize ({ wr with drawn := wr.drawn + 1 } : World) = w8 at *
          (apply wpSt_read; · (intro wd hS K hK; have d1 := (HT.out.below hS.2).cell _ rfl k hk1.out; have d2 := (HT.out.below hS.2).cell _ rfl q hq1.out; rw [show (⟨gl, 0, none⟩ : Addr).add k = ⟨gl, k, none⟩ by rw [Addr.add_mid, Nat.zero_add], HG1.out] at d1; rw [show (⟨gl, 0, none⟩ : Addr).add q = ⟨gl, q, none⟩ by rw [Addr.add_mid, Nat.zero_add], HG2.out] at d2; clear hS; go_simp; exact hK))
          (apply wpSt_read; · (intro wd hS K hK; have d1 := (HT.out.below hS.2).cell _ rfl k hk1.out; have d2 := (HT.out.below hS.2).cell _ rfl q hq1.out; rw [show (⟨gl, 0, none⟩ : Addr).add k = ⟨gl, k, none⟩ by rw [Addr.add_mid, Nat.zero_add], HG1.out] at d1; rw [show (⟨gl, 0, none⟩ : Addr).add q = ⟨gl, q, none⟩ by rw [Addr.add_mid, Nat.zero_add], HG2.out] at d2; clear hS; go_simp; exact hK))
          (apply wpSt_read; · (intro wd hS K hK; have d1 := (HT.out.below hS.2).cell _ rfl k hk1.out; have d2 := (HT.out.below hS.2).cell _ rfl q hq1.out; rw [show (⟨gl, 0, none⟩ : Addr).add k = ⟨gl, k, none⟩ by rw [Addr.add_mid, Nat.zero_add], HG1.out] at d1; rw [show (⟨gl, 0, none⟩ : Addr).add q = ⟨gl, q, none⟩ by rw [Addr.add_mid, Nat.zero_add], HG2.out] at d2; clear hS; go_simp; exact hK))
          (apply wpSt_read; · (intro wd hS K hK; have d1 := (HT.out.below hS.2).cell _ rfl k hk1.out; have d2 := (HT.out.below hS.2).cell _ rfl q hq1.out; rw [show (⟨gl, 0, none⟩ : Addr).add k = ⟨gl, k, none⟩ by rw [Addr.add_mid, Nat.zero_add], HG1.out] at d1; rw [show (⟨gl, 0, none⟩ : Addr).add q = ⟨gl, q, none⟩ by rw [Addr.add_mid, Nat.zero_add], HG2.out] at d2; clear hS; go_simp; exact hK))
          (apply wpSt_read; · (intro wd hS K hK; have d1 := (HT.out.below hS.2).cell _ rfl k hk1.out; have d2 := (HT.out.below hS.2).cell _ rfl q hq1.out; rw [show (⟨gl, 0, none⟩ : Addr).add k = ⟨gl, k, none⟩ by rw [Addr.add_mid, Nat.zero_add], HG1.out] at d1; rw [show (⟨gl, 0, none⟩ : Addr).add q = ⟨gl, q, none⟩ by rw [Addr.add_mid, Nat.zero_add], HG2.out] at d2; clear hS; go_simp; exact hK))
          (apply wpSt_read; · (intro wd hS K hK; have d1 := (HT.out.below hS.2).cell _ rfl k hk1.out; have d2 := (HT.out.below hS.2).cell _ rfl q hq1.out; rw [show (⟨gl, 0, none⟩ : Addr).add k = ⟨gl, k, none⟩ by rw [Addr.add_mid, Nat.zero_add], HG1.out] at d1; rw [show (⟨gl, 0, none⟩ : Addr).add q = ⟨gl, q, none⟩ by rw [Addr.add_mid, Nat.zero_add], HG2.out] at d2; clear hS; go_simp; exact hK))
          (apply wpSt_read; · (intro wd hS K hK; have d1 := (HT.out.below hS.2).cell _ rfl k hk1.out; have d2 := (HT.out.below hS.2).cell _ rfl q hq1.out; rw [show (⟨gl, 0, none⟩ : Addr).add k = ⟨gl, k, none⟩ by rw [Addr.add_mid, Nat.zero_add], HG1.out] at d1; rw [show (⟨gl, 0, none⟩ : Addr).add q = ⟨gl, q, none⟩ by rw [Addr.add_mid, Nat.zero_add], HG2.out] at d2; clear hS; go_simp; exact hK))
          (apply wpSt_read; · (intro wd hS K hK; have d1 := (HT.out.below hS.2).cell _ rfl k hk1.out; have d2 := (HT.out.below hS.2).cell _ rfl q hq1.out; rw [show (⟨gl, 0, none⟩ : Addr).add k = ⟨gl, k, none⟩ by rw [Addr.add_mid, Nat.zero_add], HG1.out] at d1; rw [show (⟨gl, 0, none⟩ : Addr).add q = ⟨gl, q, none⟩ by rw [Addr.add_mid, Nat.zero_add], HG2.out] at d2; clear hS; go_simp; exact hK))
          refine wpSt_keep (fun K hK => ?_)
          go_wp2_with (first
            | (go_at_call 44; ((with_reducible refine (hC.out w8).mono ?_); rintro e w9 ⟨rfl, hB9⟩)))
          have hO9 := hO8.below hB9 hO8.lt
          have hBx := hB8.trans (hB9.mono hB8.size)
          clear hO8 hB8 hB9
          refine hK _ _ ⟨hO9, hBx⟩ rfl ?_
          clear hK K
          (apply wpSt_read; · (intro wd hS K hK; clear hS; go_simp; exact hK))
          (apply wpSt_read; · (intro wd hS K hK; clear hS; go_simp; exact hK))
          (apply wpSt_read; · (intro wd hS K hK; clear hS; go_simp; exact hK))
          (apply wpSt_read; · (intro wd hS K hK; clear hS; go_simp; exact hK))
          refine wpSt_nil ?_
          cases b with
          | true =>
            rw [if_pos rfl] at hgv
            obtain ⟨x, hx⟩ : ∃ x, pw p c t = x := ⟨_, rfl⟩
            rw [hx] at hpk hgv
            rw [hgv] at hst
            have c3 := hO9.cell q
            rw [icells_get _ _ (by rw [hgl]; exact hlt2)] at c3
            have f3 := hO9.free q
            have hO2 := hO9.set q (.int .i64 x)
            rw [icells_set, ← hst] at hO2
            have K1 := Lib.hid hO2
            have K3 := Lib.hid (hBx.setCell (p := ⟨w2.heap.size, q, none⟩) (Nat.le_refl _) (.int .i64 x))
            clear hO9 hO2 hBx hst hsk hgv hx
            go_wp2_with (first
              | (go_at_call 45; ((with_reducible refine (hpk.out _).mono ?_); rintro e w4 ⟨rfl, rfl⟩)))
            go_roundw
            case rel => exact ⟨q + 1, by omega, by go_num, K1.out, K3.out⟩
            case measure => simp [intOf]; omega
          | false =>
            rw [← hsk rfl] at hO9
            have K1 := Lib.hid hO9
            clear hO9 hst hsk hgv
            go_wp2
            go_roundw
            case rel => exact ⟨q + 1, by omega, by go_num, K1.out, hBx⟩
            case measure => simp [intOf]; omega
        · have e : N = q := by omega
          subst e
          have HI := Lib.hid (by have := ints_of (B := w2.heap.size) (Nat.le_refl _) hO (by rw [gL_len]; omega); rwa [gL_len] at this)
          have hsB := hB.size
          have hgl : w2.heap.size < wr.heap.size := hO.lt
          have HBI := Lib.hid hB
          have hRc := Lib.hid ((HR.out.below hB).of_same (w' := wr.alloc (.cells #[.slice (some ⟨w2.heap.size, 0, none⟩) N N] 48)) (fun j _ hj => Below.heap_alloc _ _ _ hj))
          clear hO hB
          go_wp2_with (first
            | (refine wpList_append_rws rfl (.tmp 55) (.tmp 57) rfl w1.heap.size _ vs (some ⟨w2.heap.size, 0, none⟩) N N rfl hRc.out ⟨wr.heap.size, 0, none⟩ 1 rfl ((Own.new _ _ _).cell 0) (by omega) (by simp; omega) ?_; intro v4 w4 hR4 hG4))
          go_roundw
          case rel =>
            have hty := hRc.out.own_ty
            have keep : ∀ gg cc xs, Ints (wr.alloc (.cells #[.slice (some ⟨w2.heap.size, 0, none⟩) N N] 48)) w1.heap.size gg cc xs → Ints w4 w1.heap.size gg cc xs := fun gg cc xs h => by
              obtain ⟨a1, a2, a3, cur, a4, a5, a6⟩ := h
              refine ⟨a1, a2, a3, cur, (hG4.block gg a4.lt (fun e => ?_)).trans a4, a5, a6⟩
              obtain ⟨_, cs, hc⟩ := hty gg e.symm
              exact Own.neTy a4 hc (by decide) rfl
            have hI5 := (HI.out.rebase hs2).alloc (.cells #[.slice (some ⟨w2.heap.size, 0, none⟩) N N] 48)
            refine ⟨k + 1, vs ++ [.slice (some ⟨w2.heap.size, 0, none⟩) N N], by omega, by go_num, by simp [hvs], hR4, fun i hi => ?_, HDs.out.snoc _ N N w2.heap.size (Nat.le_refl _) HLt.out, ?_⟩
            · by_cases ei : i = k
              · subst ei
                exact ⟨w2.heap.size, N, by rw [List.getElem?_append_right (by omega)]; simp [hvs], keep _ _ _ hI5⟩
              · obtain ⟨ga, ca, ga1, ga2⟩ := (HRT.out.below HBI.out) i (by omega)
                exact ⟨ga, ca, by rw [List.getElem?_append_left (by omega)]; exact ga1, keep _ _ _ (ga2.alloc _)⟩
            · exact (((HB.out.trans (HBI.out.mono hs2)).alloc (by omega) _)).grown hG4 (by simp; omega) (fun r e => (hty r (by first | exact e | exact e.symm)).1)
          case measure => simp [intOf]; omega
    · have e : N = k := by omega
      subst e
      go_wp2
      go_ret
      exact ⟨_, vs, rfl, hR.base hs1, hvs, hRT.base hs1, hDs, hB1.trans (hB.mono hs1)⟩
end Go.Proofs.YtopenojociafaaaDoor
namespace Go.Proofs.YtopenojociafaaaDoor
open Go.RowKit
set_option linter.unusedVariables false
set_option linter.unusedSimpArgs false
theorem makeRR (n : Nat) (hn : n ≤ 1000) : ∀ w : World, (Instr.makeSlice 22 (.int .i64 n) (.int .i64 n)).run Tryd.prog w = .ok (.slice (some ⟨w.heap.size, 0, none⟩) n n) (w.alloc (.cells (madeCells #[.slice none 0 0] n) 48)) := by
  intro w
  obtain ⟨i0, hi0, hz0, hz1, hz2⟩ := info_parts infoR
  have := run_make w 22 48 i0 (.slice none 0 0) Tryd.underlying22 hi0 hz0 .i64 .i64 (n : Int) (n : Int) (by omega) (by omega) (by rw [hz2]; omega) (by omega)
  rw [this, hz1]
  simp only [Int.toNat_natCast, Nat.mul_one]
  rfl
theorem madeAR_size (n : Nat) : (madeCells #[Value.slice none 0 0] n).size = n := by simp [madeCells]
/-- The rows of a table of n times n numbers in the block g. -/
def Rof (cs : Array Value) (g n k : Nat) : Prop := cs.size = n ∧ ∀ i, i < k → cs[i]? = some (.slice (some ⟨g, i * n, none⟩) n n)
set_option maxRecDepth 100000 in
set_option maxHeartbeats 1000000 in
theorem nwt_ok (n : Nat) (h1 : 1 ≤ n) (h2 : n ≤ 200) (w : World) :
    Calls Tryd.prog 25 #[.int .i64 n, .int .i64 n] w fun e w' => ∃ cs, e = .returned (.slice (some ⟨w.heap.size + 1, 0, none⟩) n n) ∧ Own w' w.heap.size (icells (List.replicate (n * n) 0)) 2 ∧ Own w' (w.heap.size + 1) cs 48 ∧ Rof cs w.heap.size n n ∧ Below w.heap.size w w' := by
  have hm := Nat.mul_le_mul h2 h2
  obtain ⟨P, hP⟩ : ∃ P, n * n = P := ⟨_, rfl⟩
  have hPP : (n : Int) * (n : Int) = (P : Int) := by rw [← hP]; simp
  rw [hP] at hm ⊢
  have hmk := makeI P (by omega)
  have hmr := makeRR n (by omega)
  have HP := Lib.hid hP
  clear hP
  go_enter Tryd.func25, Tryd.ntmps25
  go_wp2
  clear hmk hmr
  obtain ⟨cs0, hcs0⟩ : ∃ cs, madeCells #[Value.slice none 0 0] n = cs := ⟨_, rfl⟩
  have hsz0 := madeAR_size n
  rw [hcs0] at hsz0 ⊢
  clear hcs0
  go_loopw [16] (fun i wr => ∃ (k : Nat) (cs : Array Value), k ≤ n ∧ i = .int .i64 k ∧ Own wr w.heap.size (icells (List.replicate P 0)) 2 ∧ Own wr (w.heap.size + 1) cs 48 ∧ Rof cs w.heap.size n k ∧ Below w.heap.size w wr) (fun i _ => ((n : Int) - intOf i).toNat)
  case atStart => exact ⟨0, cs0, by omega, rfl, (Own.new _ _ _).alloc _, Own.at _ _ _ (by simp), ⟨hsz0, fun i hi => by omega⟩, ((Below.refl _ _).alloc (Nat.le_refl _) _).alloc (by simp) _⟩
  case round =>
    obtain ⟨k, cs, hk, rfl, hO1, hO2, hRo, hB⟩ := hrel
    by_cases hlt : k < n
    · have hkn : (k + 1) * n ≤ P := by rw [← HP.out]; exact Nat.mul_le_mul_right n (by omega)
      have hsm : (k + 1) * n = k * n + n := Nat.succ_mul k n
      obtain ⟨A, hA⟩ : ∃ A, k * n = A := ⟨_, rfl⟩
      have hA1 : (k : Int) * (n : Int) = (A : Int) := by rw [← hA]; simp
      have hA2 : ((k : Int) + 1) * (n : Int) = (A : Int) + (n : Int) := by rw [← hA1, Int.add_mul, Int.one_mul]
      rw [hsm, hA] at hkn
      clear hsm
      have HA := Lib.hid hA
      clear hA
      have i1 : (k : Int) < (n : Int) := by omega
      have hsz := hRo.1
      have f2 := hO2.free k
      have c2 : wr.cell? ⟨w.heap.size + 1, k, none⟩ = some (cs[k]'(by omega)) := by rw [hO2.cell]; exact Array.getElem?_eq_getElem (by omega)
      go_wp2
      go_roundw
      case rel =>
        refine ⟨k + 1, _, by omega, by go_num, hO1.other (by show w.heap.size + 1 ≠ w.heap.size; omega) _, hO2.set k _, ⟨by simp [hsz], fun i hi => ?_⟩, hB.setCell (p := ⟨w.heap.size + 1, k, none⟩) (by show w.heap.size ≤ w.heap.size + 1; omega) _⟩
        by_cases e : i = k
        · subst e; rw [HA.out]; simp [hsz, hlt]
        · rw [Array.getElem?_setIfInBounds_ne (by omega)]; exact hRo.2 i (by omega)
      case measure => simp [intOf]; omega
    · have e : k = n := by omega
      subst e
      go_wp2
      go_ret
      exact ⟨cs, rfl, hO1, hO2, hRo, hB⟩
end Go.Proofs.YtopenojociafaaaDoor
namespace Go.Proofs.YtopenojociafaaaDoor
open Go.RowKit
set_option linter.unusedVariables false
set_option linter.unusedSimpArgs false
theorem rof_hdr {cs : Array Value} {g n : Nat} (h : Rof cs g n n) : cs = hdr g n ((List.range n).map (fun i => i * n)) := by
  apply Array.ext_getElem?
  intro i
  by_cases hi : i < n
  · rw [h.2 i hi, hdr_get _ _ _ _ (by simpa using hi)]
    simp [List.getD_eq_getElem?_getD, hi]
  · rw [Array.getElem?_eq_none (by rw [h.1]; omega), Array.getElem?_eq_none (by simp [hdr]; omega)]
theorem row_room {i n : Nat} (h : i < n) : i * n + n ≤ n * n := by
  have := Nat.mul_le_mul_right n (show i + 1 ≤ n by omega)
  rwa [Nat.succ_mul] at this
theorem row_apart {i j n : Nat} (h : i ≠ j) : i * n + n ≤ j * n ∨ j * n + n ≤ i * n := by
  rcases Nat.lt_or_gt_of_ne h with h | h
  · left
    have := Nat.mul_le_mul_right n (show i + 1 ≤ j by omega)
    rwa [Nat.succ_mul] at this
  · right
    have := Nat.mul_le_mul_right n (show j + 1 ≤ i by omega)
    rwa [Nat.succ_mul] at this
theorem rng_get (n i : Nat) (h : i < n) : ((List.range n).map (fun i => i * n)).getD i 0 = i * n := by simp [List.getD_eq_getElem?_getD, h]
end Go.Proofs.YtopenojociafaaaDoor
namespace Go.Proofs.YtopenojociafaaaDoor
open Go.RowKit
set_option linter.unusedVariables false
set_option linter.unusedSimpArgs false
/-- The table's numbers, m of them written. -/
def gA (p c : Int) (gd : Nat → Nat → Bool) (lp : Nat → Nat → Nat) (M m : Nat) : List Int := (List.range (M * M)).map (fun x => if x < m then gV p c gd lp (x / M) (x % M) else 0)
theorem gA_len (p c : Int) (gd : Nat → Nat → Bool) (lp : Nat → Nat → Nat) (M m : Nat) : (gA p c gd lp M m).length = M * M := by simp [gA]
theorem gA_get (p c : Int) (gd : Nat → Nat → Bool) (lp : Nat → Nat → Nat) (M m x : Nat) (h : x < M * M) : (gA p c gd lp M m).getD x 0 = if x < m then gV p c gd lp (x / M) (x % M) else 0 := by
  simp [gA, List.getD_eq_getElem?_getD, h]
theorem gA_zero (p c : Int) (gd : Nat → Nat → Bool) (lp : Nat → Nat → Nat) (M : Nat) : gA p c gd lp M 0 = List.replicate (M * M) 0 := by
  refine list_ext0 (by rw [gA_len, List.length_replicate]) (fun j hj => ?_)
  rw [gA_len] at hj
  rw [gA_get _ _ _ _ _ _ _ hj, if_neg (by omega)]
  simp [List.getD_eq_getElem?_getD, List.getElem?_replicate, hj]
theorem gA_step (p c : Int) (gd : Nat → Nat → Bool) (lp : Nat → Nat → Nat) (M k q : Nat) (hk : k < M) (hq : q < M) : gA p c gd lp M (k * M + (q + 1)) = (gA p c gd lp M (k * M + q)).set (k * M + q) (gV p c gd lp k q) := by
  have hr := row_room hk
  have hd : (k * M + q) / M = k := by rw [Nat.mul_comm, Nat.mul_add_div (by omega), Nat.div_eq_of_lt hq, Nat.add_zero]
  have hm : (k * M + q) % M = q := by rw [Nat.mul_comm, Nat.mul_add_mod, Nat.mod_eq_of_lt hq]
  refine list_ext0 (by rw [List.length_set, gA_len, gA_len]) (fun j hj => ?_)
  rw [gA_len] at hj
  rw [gA_get _ _ _ _ _ _ _ hj, getD_set _ _ _ _ (by rw [gA_len]; omega), gA_get _ _ _ _ _ _ _ hj]
  by_cases e : j = k * M + q
  · subst e; rw [if_pos rfl, if_pos (by omega), hd, hm]
  · rw [if_neg e]
    by_cases h : j < k * M + q
    · rw [if_pos (by omega), if_pos h]
    · rw [if_neg (by omega), if_neg h]
theorem gA_skip (p c : Int) (gd : Nat → Nat → Bool) (lp : Nat → Nat → Nat) (M k q : Nat) (hk : k < M) (hq : q < M) (h : gd k q = false) : gA p c gd lp M (k * M + (q + 1)) = gA p c gd lp M (k * M + q) := by
  have hr := row_room hk
  rw [gA_step _ _ _ _ _ _ _ hk hq, gV, h]
  refine list_ext0 (by rw [List.length_set]) (fun j hj => ?_)
  rw [List.length_set, gA_len] at hj
  rw [getD_set _ _ _ _ (by rw [gA_len]; omega)]
  by_cases e : j = k * M + q
  · subst e; rw [if_pos rfl, gA_get _ _ _ _ _ _ _ hj, if_neg (Nat.lt_irrefl _), if_neg (by simp)]
  · rw [if_neg e]
theorem gA_end (p c : Int) (gd : Nat → Nat → Bool) (lp : Nat → Nat → Nat) (M i j : Nat) (hi : i < M) (hj : j < M) : (gA p c gd lp M (M * M)).getD (i * M + j) 0 = gV p c gd lp i j := by
  have hr := row_room hi
  have hd : (i * M + j) / M = i := by rw [Nat.mul_comm, Nat.mul_add_div (by omega), Nat.div_eq_of_lt hj, Nat.add_zero]
  have hm : (i * M + j) % M = j := by rw [Nat.mul_comm, Nat.mul_add_mod, Nat.mod_eq_of_lt hj]
  rw [gA_get _ _ _ _ _ _ _ (by omega), if_pos (by omega), hd, hm]
set_option maxRecDepth 100000 in
set_option maxHeartbeats 4000000 in
theorem gramI_any (p c : Int) (hp : primeB p = true) (c0 : 0 ≤ c) (c1 : c < p) (n k : Nat) (h1 : 1 ≤ n) (h6 : n ≤ 6) (hk : k ≤ n) (he : (n - k) % 2 = 0) (M : Nat) (hM : (allH n k).length = M) (m1 : 1 ≤ M) (m2 : M ≤ 200) (gd : Nat → Nat → Bool) (lp : Nat → Nat → Nat) (hlp0 : ∀ i j, i < M → j < M → lp i j ≤ 1000)
    (w : World) (hP0 : ∀ i j, i < M → j < M → ∀ w1, Below w.heap.size w w1 → Calls Tryd.prog 26 #[.string ((bsl (allH n k)).getD i ByteArray.empty), .string ((bsl (allH n k)).getD j ByteArray.empty)] w1 fun e w' => e = .returned (.tuple #[.bool (gd i j), .int .i64 (lp i j : Nat)]) ∧ Below w1.heap.size w1 w') :
    Calls Tryd.prog 8 #[.int .i64 p, .int .i64 c, .int .i64 n, .int .i64 k] w fun e w' => ∃ g1 g2, e = .returned (.tuple #[.slice (some ⟨g2, 0, none⟩) M M, .int .i64 0]) ∧ w.heap.size ≤ g1 ∧ w.heap.size ≤ g2 ∧ Tbd w' g1 g2 M M ((List.range M).map (fun i => i * M)) ((List.range M).map (fun i => gL p c gd lp M i M)) ∧ Below w.heap.size w w' := by
  obtain ⟨p2, p97⟩ := primeB_two hp
  have hmd := Lib.hid (fun w => (modI_any p c w).mono fun e w' h => (show e = .returned (.bool true) ∧ w = w' from ⟨by rw [h.1, hp, show decide (0 ≤ c ∧ c < p) = true by simp; omega]; rfl, h.2.symm⟩))
  have hC := Lib.hid (fun w => cellI_t n k w ⟨⟨by omega, by omega⟩, by omega, by omega, by omega⟩)
  have hS := Lib.hid (fun w => seaI_any (n : Int) k w)
  have hlen := allH_small n k h1 (by omega) hk he
  have n6 : ¬ (6 : Int) < (n : Int) := by omega
  have b0 : Below w.heap.size w ((w.alloc (.cells #[.int .i64 (n : Int)] 2)).alloc (.cells #[.int .i64 (k : Int)] 2)) := ((Below.refl _ _).alloc (Nat.le_refl _) _).alloc (by simp) _
  have hA0 := (col_ok n k (by omega) (by omega) (by omega) ((w.alloc (.cells #[.int .i64 (n : Int)] 2)).alloc (.cells #[.int .i64 (k : Int)] 2)) w.heap.size (w.heap.size + 1) (by simp; omega) (by simp)
    (((Own.new w _ _).alloc _).cell 0) ((Own.at (w.alloc (.cells #[.int .i64 (n : Int)] 2)) _ _ (by simp)).cell 0))
  have hA := Lib.hid (hA0.mono fun e w' h => (show ∃ ad cap, e = .returned (.slice (some ad) M cap) ∧ TMn w' w.heap.size (some ad) (bsl (allH n k)) ∧ Below w.heap.size w w' from by
    obtain ⟨⟨v, rfl, hC2⟩, hB⟩ := h
    obtain ⟨p0, cap, rfl, hT⟩ := (hC2.base b0.size).tmn
    cases p0 with
    | none =>
      exfalso
      have := hT.rd.nil rfl
      have h2 := congrArg List.length this
      rw [bsl_len, hM] at h2
      simp at h2
      omega
    | some ad => exact ⟨ad, cap, by rw [← hM, ← bsl_len], hT, b0.trans (hB.mono b0.size)⟩))
  clear hA0
  have hnt := Lib.hid (fun w => nwt_ok M m1 m2 w)
  have hP := Lib.hid hP0
  have hlp := Lib.hid hlp0
  have HM := Lib.hid hM
  have hpw := Lib.hid (fun (k : Nat) w1 (hk : k ≤ 1000) => (powI_any p c k w1 p2 p97 c0 c1 hk).mono fun e w' h => (show e = .returned (.int .i64 (pw p c k)) ∧ w1 = w' from ⟨h.1, h.2⟩))
  clear he hk hP0 hlp0 hM hp
  go_enter Tryd.func8, Tryd.ntmps8
  go_wp2_with (first
    | (go_at_call 21; ((with_reducible refine (hmd.out _).mono ?_); rintro e w0 ⟨rfl, rfl⟩))
    | (go_at_call 22; ((with_reducible refine (hC.out _).mono ?_); rintro e w0 ⟨rfl, rfl⟩))
    | (go_at_call 24; ((with_reducible refine (hS.out _).mono ?_); rintro e w1 ⟨rfl, rfl⟩))
    | (go_at_call 23; ((with_reducible refine (hA.out).mono ?_); rintro e w2 ⟨ad, cap, rfl, hT, hB2⟩))
    | (go_at_call 25; ((with_reducible refine (hnt.out _).mono ?_); rintro e w3 ⟨cs, rfl, hO1, hO2, hRo, hB3⟩)))
  have hs2 := hB2.size
  have HT0 := Lib.hid (fun x (hb : Below w2.heap.size w2 x) => hT.rd.below hb)
  have HB2 := Lib.hid hB2
  have HR := Lib.hid hRo
  obtain ⟨g1, hg1⟩ : ∃ g, w2.heap.size = g := ⟨_, rfl⟩
  rw [hg1] at hs2 hO1 hO2 hRo HR HT0 hB3 ⊢
  have hs3 := hB3.size
  have hne : g1 ≠ g1 + 1 := by omega
  have hK0 : Own w3 g1 (icells (gA p c gd lp M (0 * M + 0))) 2 := by rw [Nat.zero_mul, Nat.add_zero, gA_zero]; exact hO1
  obtain ⟨LL, hLL⟩ : ∃ L, bsl (allH n k) = L := ⟨_, rfl⟩
  have hll : LL.length = M := by rw [← hLL, bsl_len, HM.out]
  rw [hLL] at hP HT0
  have HLL := Lib.hid hll
  clear hT hB2 hRo hO1 hmd hC hS hA hnt HM hll hLL b0 hlen
  go_loopw [43] (fun iv wr => ∃ i : Nat, i ≤ M ∧ iv = .int .i64 i ∧ Own wr g1 (icells (gA p c gd lp M (i * M + 0))) 2 ∧ Own wr (g1 + 1) cs 48 ∧ Below g1 w2 wr) (fun iv _ => ((M : Int) - intOf iv).toNat)
  case atStart => exact ⟨0, Nat.zero_le _, rfl, hK0, hO2, hB3⟩
  case round =>
    clear hK0 hO2 hB3
    obtain ⟨i, hi, rfl, hO, hH, hB⟩ := hrel
    have hT := HT0.out _ hB
    by_cases hlt : i < M
    · have kI : (i : Int) < (M : Int) := by omega
      have c2 := hT.cell ad rfl i (by rw [HLL.out]; exact hlt)
      obtain ⟨sA, hsA⟩ : ∃ s, LL.getD i ByteArray.empty = s := ⟨_, rfl⟩
      rw [hsA] at c2
      have hP2 := Lib.hid (fun j hj => hP.out i j hlt hj)
      rw [hsA] at hP2
      have hck := Lib.hid (HR.out.2 i hlt)
      have hrm := Lib.hid (row_room hlt)
      obtain ⟨P, hPP⟩ : ∃ P, i * M = P := ⟨_, rfl⟩
      have HPP := Lib.hid hPP
      rw [hPP] at hO hck hrm
      clear hsA hPP
      go_wp2
      go_loopw [50] (fun jv wj => ∃ q : Nat, q ≤ M ∧ jv = .int .i64 q ∧ Own wj g1 (icells (gA p c gd lp M (P + q))) 2 ∧ Own wj (g1 + 1) cs 48 ∧ Below g1 w2 wj) (fun jv _ => ((M : Int) - intOf jv).toNat)
      case atStart => exact ⟨0, Nat.zero_le _, rfl, hO, hH, hB⟩
      case round =>
        clear hO hH hT hB c2
        obtain ⟨q, hq, rfl, hO, hH, hB⟩ := hrel
        have hT := HT0.out _ hB
        by_cases hqn : q < M
        · have qI : (q : Int) < (M : Int) := by omega
          have c2 := hT.cell ad rfl q (by rw [HLL.out]; exact hqn)
          obtain ⟨sB, hsB⟩ : ∃ s, LL.getD q ByteArray.empty = s := ⟨_, rfl⟩
          rw [hsB] at c2
          have hC := Lib.hid (hP2.out q hqn)
          rw [hsB] at hC
          have hst := gA_step p c gd lp M i q hlt hqn
          have hsk := gA_skip p c gd lp M i q hlt hqn
          rw [HPP.out] at hst hsk
          have hgv : gV p c gd lp i q = if gd i q = true then pw p c (lp i q) else 0 := rfl
          have hpk := Lib.hid (fun w => hpw.out (lp i q) w (hlp.out i q hlt hqn))
          have hgl : P + q < (gA p c gd lp M (P + q)).length := by rw [gA_len]; have := hrm.out; omega
          obtain ⟨t, ht⟩ : ∃ t, lp i q = t := ⟨_, rfl⟩
          rw [ht] at hC hpk hgv
          obtain ⟨b, hb⟩ : ∃ b, gd i q = b := ⟨_, rfl⟩
          rw [hb] at hC hsk hgv
          obtain ⟨Lq, hLq⟩ : ∃ L, gA p c gd lp M (P + q) = L := ⟨_, rfl⟩
          rw [hLq] at hst hsk hO hgl
          have HO := Lib.hid (fun x hb => hO.below (w' := x) hb hO.lt)
          have HH := Lib.hid (fun x hb => hH.below (w' := x) hb hH.lt)
          have HB := Lib.hid (fun x (hb : Below wr.heap.size wr x) => hB.trans (hb.mono (show g1 ≤ wr.heap.size by have := hB.size; omega)))
          have hBw := Lib.hid (HB2.out.trans (hB.mono hs2))
          clear hsB ht hb hLq hO hH hT hB
          cases b with
          | true =>
            rw [if_pos rfl] at hgv
            obtain ⟨x, hx⟩ : ∃ x, pw p c t = x := ⟨_, rfl⟩
            rw [hx] at hpk hgv
            rw [hgv] at hst
            go_upto_region 13 with (first
              | (go_at_call 26; ((with_reducible refine (hC.out wr hBw.out).mono ?_); rintro e w9 ⟨rfl, hB9⟩)))
            have hO := HO.out w9 hB9
            have hH := HH.out w9 hB9
            have hB := HB.out w9 hB9
            clear HO HH HB hB9 c2 hC hsk hgv hx
            refine wp_region_st (fun x => Own x (g1 + 1) cs 48 ∧ Own x g1 (icells Lq) 2 ∧ Below g1 w2 x) [(true, 0), (true, 1), (true, 2), (true, 3), (true, 4), (true, 5), (true, 6), (true, 7), (false, 8), (true, 9)] 10 (by kernel_rfl) (by kernel_rfl) ⟨hH.drewN 1, hO.drewN 1, hB.drew⟩ ?_
            simp only [List.map_cons, List.map_nil, opS'_mk, opN_zero, opN_succ, List.drop_succ_cons, List.drop_zero]
            have hO8 := hO.drewN 1
            have hH8 := hH.drewN 1
            have hB8 := hB.drew
            change Below _ _ { w9 with drawn := w9.drawn + 1 } at hB8
            change Own { w9 with drawn := w9.drawn + 1 } _ _ _ at hO8
            change Own { w9 with drawn := w9.drawn + 1 } _ _ _ at hH8
            clear hO hB hH
            generalize ({ w9 with drawn := w9.drawn + 1 } : World) = w8 at *
            (apply wpSt_read; · (intro wd hS K hK; have d1 := (hS.1.cell i).trans hck.out; clear hS; go_simp; exact hK))
            (apply wpSt_read; · (intro wd hS K hK; have d1 := (hS.1.cell i).trans hck.out; clear hS; go_simp; exact hK))
            (apply wpSt_read; · (intro wd hS K hK; have d1 := (hS.1.cell i).trans hck.out; clear hS; go_simp; exact hK))
            (apply wpSt_read; · (intro wd hS K hK; have d1 := (hS.1.cell i).trans hck.out; clear hS; go_simp; exact hK))
            (apply wpSt_read; · (intro wd hS K hK; have d1 := (hS.1.cell i).trans hck.out; clear hS; go_simp; exact hK))
            (apply wpSt_read; · (intro wd hS K hK; have d1 := (hS.1.cell i).trans hck.out; clear hS; go_simp; exact hK))
            (apply wpSt_read; · (intro wd hS K hK; have d1 := (hS.1.cell i).trans hck.out; clear hS; go_simp; exact hK))
            (apply wpSt_read; · (intro wd hS K hK; have d1 := (hS.1.cell i).trans hck.out; clear hS; go_simp; exact hK))
            refine wpSt_keep (fun K hK => ?_)
            go_wp2_with (first
              | (go_at_call 27; ((with_reducible refine (hpk.out _).mono ?_); rintro e w7 ⟨rfl, rfl⟩)))
            refine hK _ _ ⟨hH8, hO8, hB8⟩ rfl ?_
            clear hK K
            (apply wpSt_read; · (intro wd hS K hK; have d1 := (hS.1.cell i).trans hck.out; clear hS; go_simp; exact hK))
            refine wpSt_nil ?_
            have c3 := hO8.cell (P + q)
            rw [icells_get _ _ hgl] at c3
            have f3 := hO8.free (P + q)
            have hO2 := hO8.set (P + q) (.int .i64 x)
            rw [icells_set, ← hst] at hO2
            have K1 := Lib.hid hO2
            have K2 := Lib.hid (hH8.other (a := ⟨g1, P + q, none⟩) (by show g1 ≠ g1 + 1; omega) (.int .i64 x))
            have K3 := Lib.hid (hB8.setCell (p := ⟨g1, P + q, none⟩) (Nat.le_refl g1) (.int .i64 x))
            clear hO8 hH8 hO2 hst
            go_wp2
            go_roundw
            case rel => exact ⟨q + 1, by omega, by go_num, K1.out, K2.out, K3.out⟩
            case measure => simp [intOf]; omega
          | false =>
            have hsk2 := Lib.hid (hsk rfl)
            clear hsk hst hgv
            go_wp2_with (first
              | (go_at_call 26; ((with_reducible refine (hC.out wr hBw.out).mono ?_); rintro e w9 ⟨rfl, hB9⟩)))
            go_roundw
            case rel => exact ⟨q + 1, by omega, by go_num, by rw [hsk2.out]; exact HO.out _ hB9, HH.out _ hB9, HB.out _ hB9⟩
            case measure => simp [intOf]; omega
        · have e : M = q := by omega
          subst e
          have K1 := Lib.hid (show Own wr g1 (icells (gA p c gd lp M ((i + 1) * M + 0))) 2 by rw [Nat.succ_mul, HPP.out, Nat.add_zero]; exact hO)
          clear hO
          go_wp2
          go_roundw
          case rel => exact ⟨i + 1, by omega, by go_num, K1.out, hH, hB⟩
          case measure => simp [intOf]; omega
    · have e : M = i := by omega
      subst e
      have hgl := gL_len p c gd lp M
      have hT2 : Tbd wr g1 (g1 + 1) M M ((List.range M).map (fun i => i * M)) ((List.range M).map (fun i => gL p c gd lp M i M)) := by
        have hrow : ∀ i, i < M → rw' ((List.range M).map (fun i => gL p c gd lp M i M)) i = gL p c gd lp M i M := fun i hi => by simp [rw', List.getD_eq_getElem?_getD, hi]
        rw [Nat.add_zero] at hO
        refine ⟨hne, _, hO, by rw [← rof_hdr HR.out]; exact hH, by simp, by simp, fun i hi => by rw [hrow i hi]; exact hgl i M, fun i hi => ?_, fun i j hi hj hij => ?_, fun i j hi hj => ?_⟩
        · rw [rng_get _ _ hi, gA_len]; exact row_room hi
        · rw [rng_get _ _ hi, rng_get _ _ hj]; exact row_apart hij
        · rw [rng_get _ _ hi, gA_end _ _ _ _ _ _ _ hi hj, hrow i hi, gL_get _ _ _ _ _ _ _ _ hj, if_pos hj]
      have HTT := Lib.hid hT2
      have HBB := Lib.hid (HB2.out.trans (hB.mono hs2))
      clear hT2 hO hH hB hT
      go_wp2
      go_ret2
      exact ⟨g1, g1 + 1, rfl, by omega, by omega, HTT.out, HBB.out⟩
end Go.Proofs.YtopenojociafaaaDoor
