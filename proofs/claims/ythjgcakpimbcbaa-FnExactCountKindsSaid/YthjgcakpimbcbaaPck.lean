/- CountKinds, and the law. -/
import Derived.Test.YthjgcakpimbcbaaLsp
import Derived.Test.YthjgcakpimbcbaaPkk
import Derived.Test.YthjgcakpimbcbaaMark
import Derived.Test.YthjgcakpimbcbaaTerm
import Derived.Deep.RegionWith
namespace Go.Proofs.Ythjgcakpimbcbaa
open Go.RowKit Go.Lib
set_option linter.unusedVariables false
set_option linter.unusedSimpArgs false
/-- One more for each of the first j kinds that a partition has. -/
def upc (bs : List Bool) (cs : List Int) : Nat → List Int
  | 0 => cs
  | j + 1 => if bs.getD j false then (upc bs cs j).set j ((upc bs cs j).getD j 0 + 1) else upc bs cs j
theorem upc_len (bs : List Bool) (cs : List Int) (j : Nat) : (upc bs cs j).length = cs.length := by
  induction j with
  | zero => rfl
  | succ j ih => unfold upc; split <;> simp [ih]
theorem upc_bd (bs : List Bool) (cs : List Int) (X : Int) (h : ∀ i, 0 ≤ cs.getD i 0 ∧ cs.getD i 0 ≤ X) (j : Nat) : ∀ i, 0 ≤ (upc bs cs j).getD i 0 ∧ (upc bs cs j).getD i 0 ≤ X + j := by
  induction j with
  | zero => intro i; have := h i; unfold upc; omega
  | succ j ih =>
    intro i
    have h1 := ih i
    have h2 := ih j
    unfold upc
    split
    · by_cases e : j = i
      · subst e
        by_cases hl : j < (upc bs cs j).length
        · simp [List.getD_eq_getElem?_getD, hl] at h2 ⊢; omega
        · simp [List.getD_eq_getElem?_getD, hl] at h2 ⊢; omega
      · simp [List.getD_eq_getElem?_getD, List.getElem?_set, e] at h1 ⊢; omega
    · omega
/-- The counts behind k partitions. -/
def totc (K : Nat → List Bool) : Nat → List Int
  | 0 => List.replicate 7 0
  | k + 1 => upc (K k) (totc K k) 7
theorem totc_len (K : Nat → List Bool) (k : Nat) : (totc K k).length = 7 := by
  induction k with
  | zero => rfl
  | succ k ih => unfold totc; rw [upc_len, ih]
theorem totc_bd (K : Nat → List Bool) (k : Nat) : ∀ i, 0 ≤ (totc K k).getD i 0 ∧ (totc K k).getD i 0 ≤ 7 * (k : Int) := by
  induction k with
  | zero =>
    intro i
    have : (totc K 0).getD i 0 = 0 := by
      unfold totc
      rw [List.getD_eq_getElem?_getD, List.getElem?_replicate]; split <;> rfl
    omega
  | succ k ih => intro i; have := upc_bd (K k) (totc K k) _ ih 7 i; unfold totc; omega
theorem nums_set {ms : List Int} (h : Nums ms) (k : Nat) (x : Int) (h0 : 0 ≤ x) (h1 : x < 8) : Nums (ms.set k x) := by
  intro i
  have := h i
  by_cases e : k = i
  · subst e
    by_cases hl : k < ms.length
    · simp [List.getD_eq_getElem?_getD, hl]; omega
    · simp [List.getD_eq_getElem?_getD, hl]
  · simp [List.getD_eq_getElem?_getD, List.getElem?_set, e] at this ⊢; exact this
theorem pf_nums (f : Nat) : ∀ (k nx : Nat) (ms : List Int), nx ≤ k → k + f ≤ 8 → Nums ms → ∀ x ∈ pf f k nx ms, Nums x := by
  induction f with
  | zero => intro k nx ms _ _ h x hx; simp [pf] at hx; subst hx; exact h
  | succ f ih =>
    intro k nx ms hn hk h x hx
    rw [pf, List.mem_flatMap] at hx
    obtain ⟨p, hp0, hp⟩ := hx
    rw [List.mem_range] at hp0
    exact ih _ _ _ (by omega) (by omega) (nums_set h k _ (by omega) (by omega)) x hp
theorem nums_zero : Nums zer8 := by
  intro i
  unfold zer8
  rw [List.getD_eq_getElem?_getD, List.getElem?_replicate]; split <;> simp
theorem allP_get (n : Nat) (h4 : n ≤ 4) (k : Nat) (hk : k < (allP n).length) : ∃ ms, (allP n).getD k (0, zer8) = ((n : Int), ms) ∧ ms.length = 8 ∧ Nums ms := by
  have hm : (allP n)[k] ∈ allP n := List.getElem_mem hk
  have hg : (allP n).getD k (0, zer8) = (allP n)[k] := by rw [List.getD_eq_getElem?_getD, List.getElem?_eq_getElem hk]; rfl
  rw [hg]
  have h8 := allP_16 n _ hm
  unfold allP prw at hm
  rw [List.mem_map] at hm
  obtain ⟨x, hx, he⟩ := hm
  have hN := pf_nums (2 * n) 0 0 zer8 (Nat.le_refl _) (by omega) nums_zero x hx
  have h9 := pf_8 _ _ _ _ zlen8 x hx
  exact ⟨x, he.symm, h9, hN⟩
def KinPost (bs : List Bool) (w : World) (e : Ending) (w' : World) : Prop := ∃ g, e = .returned (.slice (some ⟨g, 0, none⟩) 7 7) ∧ w.heap.size ≤ g ∧ Own w' g (bcl bs) 4 ∧ Below w.heap.size w w'
theorem kin_both (N : Nat) (ms : List Int) (hms : ms.length = 8) (hA : Nums ms) (h1 : 1 ≤ N) (h4 : N ≤ 4) :
    ∃ bs : List Bool, bs.length = 7 ∧ (∀ w, Calls Try.prog 21 #[.agg (dcells N ms)] w (KinPost bs w)) ∧ (∀ w, Calls Try.prog 19 #[.agg (dcells N ms)] w (KinPost bs w)) := by
  obtain ⟨r, hr⟩ : ∃ r : Bool, r = true ↔ ¬ Crs (arZ N ms N (2 * N)) (2 * N) := by
    by_cases h : Crs (arZ N ms N (2 * N)) (2 * N)
    · exact ⟨false, by simp [h]⟩
    · exact ⟨true, by simp [h]⟩
  refine ⟨kl r (kd fPair (upL N ms (2 * N)) (loL N ms (2 * N)) (parN ms N)) (kd fSmall (upL N ms (2 * N)) (loL N ms (2 * N)) (parN ms N)) (kd fRook (upL N ms (2 * N)) (loL N ms (2 * N)) (parN ms N)) (kd fIdeal (upL N ms (2 * N)) (loL N ms (2 * N)) (parN ms N)) (kd fUni (upL N ms (2 * N)) (loL N ms (2 * N)) (parN ms N)), rfl, fun w => ?_, fun w => ?_⟩
  · unfold KinPost
    rw [kl_cells]
    exact kindsOfI_any N ms hms hA r hr w h1 h4
  · unfold KinPost
    rw [kl_cells]
    exact kindsS_any N ms hms hA r hr w h1 h4
theorem hgt_t (n : Int) (w : World) (h1 : 1 ≤ n) (h4 : n ≤ 4) : Calls Try.prog 20 #[.int .i64 n] w fun e w' => e = .returned (.bool true) ∧ w = w' := by
  go_enter Try.func20, Try.ntmps20
  go_wp2
  go_ret
  exact ⟨by first | rfl | (simp <;> omega), rfl⟩
theorem hgt_f (n : Int) (w : World) (h : n < 1 ∨ 4 < n) : Calls Try.prog 20 #[.int .i64 n] w fun e w' => e = .returned (.bool false) ∧ w = w' := by
  by_cases h1 : 1 ≤ n
  · have h2 : ¬ n ≤ 4 := by omega
    clear h
    go_enter Try.func20, Try.ntmps20
    go_wp2
    go_ret
    exact ⟨by first | rfl | (simp <;> omega), rfl⟩
  · clear h
    go_enter Try.func20, Try.ntmps20
    go_wp2
    go_ret
    exact ⟨by first | rfl | (simp <;> omega), rfl⟩
set_option maxRecDepth 100000 in
set_option maxHeartbeats 4000000 in
theorem ckI_ok (n : Nat) (h1 : 1 ≤ n) (h4 : n ≤ 4) (K : Nat → List Bool) (hK : ∀ k, k < (allP n).length → ∃ ms, (allP n).getD k (0, zer8) = ((n : Int), ms) ∧ ms.length = 8 ∧ (K k).length = 7 ∧ (∀ w, Calls Try.prog 21 #[.agg (dcells n ms)] w (KinPost (K k) w))) (w : World) :
    Calls Try.prog 11 #[.int .i64 n] w (ResI (totc K (allP n).length) 0 w) := by
  have hld := Lib.hid (fun w => lpI_any n h1 h4 w)
  have h16 := Lib.hid (allP_16 n)
  have hpos := Lib.hid (allP_pos n h1 h4)
  have hlen := allP_len n h1 h4
  have hKI := Lib.hid hK
  unfold LpPost at hld
  obtain ⟨ds, hds⟩ : ∃ ds, allP n = ds := ⟨_, rfl⟩
  rw [hds] at hld h16 hpos hlen hKI ⊢
  have hmk : ∀ w : World, (Instr.makeSlice 28 (.int .i64 7) (.int .i64 7)).run Try.prog w = .ok (.slice (some ⟨w.heap.size, 0, none⟩) 7 7) (w.alloc (.cells (icells (List.replicate 7 0)) 2)) := makeI 7 (by omega)
  clear hds hK
  go_enter Try.func11, Try.ntmps11
  go_upto_region 5 with (first
    | (go_at_call 20; ((with_reducible refine (hgt_t _ _ (by omega) (by omega)).mono ?_); rintro e w0 ⟨rfl, rfl⟩))
    | (go_at_call 17; ((with_reducible refine (hld.out _).mono ?_); rintro e w1 ⟨v1, rfl, hR1, hB1⟩); obtain ⟨g, cap, rfl, hg, hgl⟩ := hR1.at h16.out hpos.out))
  have nO : Own w1 w.heap.size (icells (totc K 0)) 2 := (Own.new w (icells (List.replicate 7 0)) 2).below hB1 (by simp)
  have nR : RowQ w1 w.heap.size (.slice (some ⟨g, 0, none⟩) ds.length cap) ds := hR1.base (by simp)
  have nB : Below w.heap.size w w1 := ((Below.refl _ w).alloc (Nat.le_refl _) _).trans (hB1.mono (by simp))
  have hgg : ¬ g = w.heap.size := by simp at hg; omega
  have hGw : w.heap.size ≤ w.heap.size := Nat.le_refl _
  clear hR1 hB1 hg hgl
  have G7 := Lib.hid (totc_len K)
  have hbd := Lib.hid (totc_bd K)
  go_wp2
  go_loopw [16] (fun i wr => ∃ k : Nat, k ≤ ds.length ∧ i = .int .i64 k ∧ Own wr w.heap.size (icells (totc K k)) 2 ∧ RowQ wr w.heap.size (.slice (some ⟨g, 0, none⟩) ds.length cap) ds ∧ Below w.heap.size w wr) (fun i _ => (ds.length - intOf i).toNat)
  case atStart => exact ⟨0, by omega, rfl, nO, nR, nB⟩
  case round =>
    clear nO nR nB
    obtain ⟨k, hk, rfl, hO, hR, hB⟩ := hrel
    by_cases hlt : k < ds.length
    · obtain ⟨ms, hms, hm8, hKl, hki⟩ := hKI.out k hlt
      have hrd := Lib.hid (show ∀ j u, (dcells n ms).toList[j]? = some u → wr.cell? ((⟨g, k * 9, none⟩ : Addr).add j) = some u from by have h := hR.read h16.out k hlt; rw [hms] at h; exact h)
      have hl := Lib.hid hm8
      have h9 := Lib.hid (show (dcells n ms).toList.length = 9 from dl9 hm8)
      have hki' := Lib.hid hki
      have hst : totc K (k + 1) = upc (K k) (totc K k) 7 := rfl
      have cb := hbd.out k
      have cl := G7.out k
      obtain ⟨cs, hcs⟩ : ∃ cs, totc K k = cs := ⟨_, rfl⟩
      rw [hcs] at hst cb cl hO
      obtain ⟨bs, hbs⟩ : ∃ bs, K k = bs := ⟨_, rfl⟩
      rw [hbs] at hst hki' hKl
      have hst' := Lib.hid hst
      have ub := Lib.hid (upc_bd bs cs _ cb)
      have ul := Lib.hid (fun j => (upc_len bs cs j).trans cl)
      have kI : (k : Int) < (ds.length : Int) := by omega
      have hws := hB.size
      unfold KinPost at hki'
      clear hms hm8 hki hst hcs hbs cb
      go_wp2_with (first
        | (refine wpList_load_at rfl 38 (.tmp 18) rfl ⟨g, k * 9, none⟩ rfl (dcells n ms).toList _ hrd.out Try.underlying38 rfl (by rw [h9.out]; kernel_rfl) ?_)
        | (refine wpList_store_own rfl 38 _ _ rfl _ _ rfl rfl 38 _ (Own.new wr _ _) (rowP (d9 _ _ (hl.out))) (z_eq8 (d9 _ _ hl.out)) (dcells_one _ _) ?_; intro w2 hO2 hN2)
        | (refine wpList_load_row rfl 38 _ rfl _ rfl 38 _ (0, 0) _ (hO2) Try.underlying38 rfl (rowP (d9 _ _ (hl.out))) ?_)
        | (go_at_call 21; ((with_reducible refine (hki'.out _).mono ?_); rintro e w3 ⟨gk, rfl, hgk, hK3, hB3⟩)))
      have b2 : Below w.heap.size w w2 := (hB.alloc hws _).trans (hN2.below.mono hws)
      have q1 : Own w2 w.heap.size (icells cs) 2 := (hN2.other w.heap.size (Nat.ne_of_lt hO.lt)).trans (hO.alloc (.cells zp 38))
      have q2 := (hR.alloc (.cells zp 38)).kept (fun j e => hN2.other j (Nat.ne_of_lt (hR.own j e).2.1))
      have nO := q1.below hB3 q1.lt
      have nR := q2.below hB3 (Nat.le_refl _)
      have nB : Below w.heap.size w w3 := b2.trans (hB3.mono b2.size)
      have hgG : gk ≠ w.heap.size := by have := q1.lt; omega
      have nK := Lib.hid hK3
      clear hO hR hB hB3 hrd hki' hK3
      go_loopw [23] (fun j wj => ∃ c : Nat, c ≤ 7 ∧ j = .int .i64 c ∧ Own wj w.heap.size (icells (upc bs cs c)) 2 ∧ Own wj gk (bcl bs) 4 ∧ RowQ wj w.heap.size (.slice (some ⟨g, 0, none⟩) ds.length cap) ds ∧ Below w.heap.size w wj) (fun j _ => (7 - intOf j).toNat)
      case atStart => exact ⟨0, by omega, rfl, nO, nK.out, nR, nB⟩
      case round =>
        clear nO nR nB nK
        obtain ⟨c, hc7, rfl, hO, hK, hR, hB⟩ := hrel
        by_cases hl2 : c < 7
        · have cI : (c : Int) < 7 := by omega
          have c0 := hK.cell c
          rw [bcl_get _ _ (by rw [hKl]; omega)] at c0
          have c1 := hO.cell c
          rw [icells_get _ _ (by rw [ul.out c]; omega)] at c1
          have f1 := hO.free c
          have bb := ub.out c c
          have hs : upc bs cs (c + 1) = if bs.getD c false then (upc bs cs c).set c ((upc bs cs c).getD c 0 + 1) else upc bs cs c := rfl
          obtain ⟨x, hx⟩ : ∃ x, (upc bs cs c).getD c 0 = x := ⟨_, rfl⟩
          rw [hx] at c1 bb hs
          have hO2 := hO.set c (.int .i64 (x + 1))
          rw [icells_set] at hO2
          have hK2 := hK.other (a := ⟨w.heap.size, c, none⟩) (by simpa using hgG.symm) (.int .i64 (x + 1))
          have hR2 := hR.cell (a := ⟨w.heap.size, c, none⟩) (by intro e; injection e with e; exact hgg e) (.int .i64 (x + 1))
          have hB2 := hB.setCell (p := ⟨w.heap.size, c, none⟩) hGw (.int .i64 (x + 1))
          cases hbc : bs.getD c false with
          | true =>
            rw [hbc] at c0 hs
            rw [if_pos rfl] at hs
            rw [← hs] at hO2
            have K1 := Lib.hid hO2
            have K2 := Lib.hid hK2
            have K3 := Lib.hid hR2
            have K4 := Lib.hid hB2
            clear hO hO2 hK hK2 hR hR2 hB hB2 hbc hs hx
            go_wp2
            go_roundw
            case rel => exact ⟨c + 1, by omega, by go_num, K1.out, K2.out, K3.out, K4.out⟩
            case measure => simp [intOf]; omega
          | false =>
            rw [hbc] at c0 hs
            rw [if_neg (by simp)] at hs
            rw [← hs] at hO
            have K1 := Lib.hid hO
            have K2 := Lib.hid hK
            have K3 := Lib.hid hR
            have K4 := Lib.hid hB
            clear hO hO2 hK hK2 hR hR2 hB hB2 hbc hs hx c1
            go_wp2
            go_roundw
            case rel => exact ⟨c + 1, by omega, by go_num, K1.out, K2.out, K3.out, K4.out⟩
            case measure => simp [intOf]; omega
        · have e : c = 7 := by omega
          subst e
          rw [← hst'.out] at hO
          have K1 := Lib.hid hO
          have K3 := Lib.hid hR
          have K4 := Lib.hid hB
          clear hO hR hB hK
          go_wp2
          go_roundw
          case rel => exact ⟨k + 1, by omega, by go_num, K1.out, K3.out, K4.out⟩
          case measure => simp [intOf]; omega
    · have e : k = ds.length := by omega
      subst e
      have K1 := Lib.hid hO
      have K4 := Lib.hid hB
      clear hO hR hB
      go_wp2
      go_ret2
      exact ⟨some ⟨w.heap.size, 0, none⟩, 7, by rw [G7.out]; rfl, Mn.new hGw K1.out, K4.out⟩
set_option maxRecDepth 100000 in
set_option maxHeartbeats 4000000 in
theorem ckS_ok (n : Nat) (h1 : 1 ≤ n) (h4 : n ≤ 4) (K : Nat → List Bool) (hK : ∀ k, k < (allP n).length → ∃ ms, (allP n).getD k (0, zer8) = ((n : Int), ms) ∧ ms.length = 8 ∧ (K k).length = 7 ∧ (∀ w, Calls Try.prog 19 #[.agg (dcells n ms)] w (KinPost (K k) w))) (w : World) :
    Calls Try.prog 10 #[.int .i64 n] w (ResI (totc K (allP n).length) 0 w) := by
  have hld := Lib.hid (fun w => lpS_any n h1 h4 w)
  have h16 := Lib.hid (allP_16 n)
  have hpos := Lib.hid (allP_pos n h1 h4)
  have hlen := allP_len n h1 h4
  have hKS := Lib.hid hK
  unfold LpPost at hld
  obtain ⟨ds, hds⟩ : ∃ ds, allP n = ds := ⟨_, rfl⟩
  rw [hds] at hld h16 hpos hlen hKS ⊢
  have hmk : ∀ w : World, (Instr.makeSlice 28 (.int .i64 7) (.int .i64 7)).run Try.prog w = .ok (.slice (some ⟨w.heap.size, 0, none⟩) 7 7) (w.alloc (.cells (icells (List.replicate 7 0)) 2)) := makeI 7 (by omega)
  clear hds hK
  go_enter Try.func10, Try.ntmps10
  go_upto_region 3 with (first
    | (go_at_call 15; ((with_reducible refine (inS_t _ _ _ _ (by omega) (by omega)).mono ?_); rintro e w0 ⟨rfl, rfl⟩)))
  go_region_with (first
    | (go_at_call 16; ((with_reducible refine (hld.out _).mono ?_); rintro e w1 ⟨v1, rfl, hR1, hB1⟩); obtain ⟨g, cap, rfl, hg, hgl⟩ := hR1.at h16.out hpos.out))
  · have nO : Own (w1.alloc (.cells (icells [0, 0, 0, 0, 0, 0, 0]) 2)) w1.heap.size (icells (totc K 0)) 2 := Own.new _ _ _
    have nR : RowQ (w1.alloc (.cells (icells [0, 0, 0, 0, 0, 0, 0]) 2)) w.heap.size (.slice (some ⟨g, 0, none⟩) ds.length cap) ds := hR1.alloc _
    have nB : Below w.heap.size w (w1.alloc (.cells (icells [0, 0, 0, 0, 0, 0, 0]) 2)) := ((Below.refl w.heap.size w).drew.trans hB1).alloc hB1.size _
    have hgg : ¬ g = w1.heap.size := by omega
    have hGw : w.heap.size ≤ w1.heap.size := hB1.size
    generalize w1.alloc (.cells (icells [0, 0, 0, 0, 0, 0, 0]) 2) = W at *
    obtain ⟨G, hG⟩ : ∃ G, w1.heap.size = G := ⟨_, rfl⟩
    rw [hG] at nO hgg hGw ⊢
    clear hR1 hB1 hg hgl hG
    have G7 := Lib.hid (totc_len K)
    have hbd := Lib.hid (totc_bd K)
    go_wp2
    go_loopw [6] (fun i wr => ∃ k : Nat, k ≤ ds.length ∧ i = .int .i64 k ∧ Own wr G (icells (totc K k)) 2 ∧ RowQ wr w.heap.size (.slice (some ⟨g, 0, none⟩) ds.length cap) ds ∧ Below w.heap.size w wr) (fun i _ => (ds.length - intOf i).toNat)
    case atStart => exact ⟨0, by omega, rfl, nO, nR, nB⟩
    case round =>
      clear nO nR nB
      obtain ⟨k, hk, rfl, hO, hR, hB⟩ := hrel
      by_cases hlt : k < ds.length
      · obtain ⟨ms, hms, hm8, hKl, hki⟩ := hKS.out k hlt
        have hrd := Lib.hid (show ∀ j u, (dcells n ms).toList[j]? = some u → wr.cell? ((⟨g, k * 9, none⟩ : Addr).add j) = some u from by have h := hR.read h16.out k hlt; rw [hms] at h; exact h)
        have hl := Lib.hid hm8
        have h9 := Lib.hid (show (dcells n ms).toList.length = 9 from dl9 hm8)
        have hki' := Lib.hid hki
        have hst : totc K (k + 1) = upc (K k) (totc K k) 7 := rfl
        have cb := hbd.out k
        have cl := G7.out k
        obtain ⟨cs, hcs⟩ : ∃ cs, totc K k = cs := ⟨_, rfl⟩
        rw [hcs] at hst cb cl hO
        obtain ⟨bs, hbs⟩ : ∃ bs, K k = bs := ⟨_, rfl⟩
        rw [hbs] at hst hki' hKl
        have hst' := Lib.hid hst
        have ub := Lib.hid (upc_bd bs cs _ cb)
        have ul := Lib.hid (fun j => (upc_len bs cs j).trans cl)
        have kI : (k : Int) < (ds.length : Int) := by omega
        have hws := hB.size
        unfold KinPost at hki'
        clear hms hm8 hki hst hcs hbs cb
        go_wp2_with (first
          | (refine wpList_load_at rfl 38 (.tmp 23) rfl ⟨g, k * 9, none⟩ rfl (dcells n ms).toList _ hrd.out Try.underlying38 rfl (by rw [h9.out]; kernel_rfl) ?_)
          | (go_at_call 19; ((with_reducible refine (hki'.out _).mono ?_); rintro e w3 ⟨gk, rfl, hgk, hK3, hB3⟩)))
        have nO := hO.below hB3 hO.lt
        have nR := hR.below hB3 (Nat.le_refl _)
        have nB : Below w.heap.size w w3 := hB.trans (hB3.mono hws)
        have hgG : gk ≠ G := by have := hO.lt; omega
        have nK := Lib.hid hK3
        clear hO hR hB hB3 hrd hki' hK3
        go_loopw [8] (fun j wj => ∃ c : Nat, c ≤ 7 ∧ j = .int .i64 c ∧ Own wj G (icells (upc bs cs c)) 2 ∧ Own wj gk (bcl bs) 4 ∧ RowQ wj w.heap.size (.slice (some ⟨g, 0, none⟩) ds.length cap) ds ∧ Below w.heap.size w wj) (fun j _ => (7 - intOf j).toNat)
        case atStart => exact ⟨0, by omega, rfl, nO, nK.out, nR, nB⟩
        case round =>
          clear nO nR nB nK
          obtain ⟨c, hc7, rfl, hO, hK, hR, hB⟩ := hrel
          by_cases hl2 : c < 7
          · have cI : (c : Int) < 7 := by omega
            have c0 := hK.cell c
            rw [bcl_get _ _ (by rw [hKl]; omega)] at c0
            have c1 := hO.cell c
            rw [icells_get _ _ (by rw [ul.out c]; omega)] at c1
            have f1 := hO.free c
            have bb := ub.out c c
            have hs : upc bs cs (c + 1) = if bs.getD c false then (upc bs cs c).set c ((upc bs cs c).getD c 0 + 1) else upc bs cs c := rfl
            obtain ⟨x, hx⟩ : ∃ x, (upc bs cs c).getD c 0 = x := ⟨_, rfl⟩
            rw [hx] at c1 bb hs
            have hO2 := hO.set c (.int .i64 (x + 1))
            rw [icells_set] at hO2
            have hK2 := hK.other (a := ⟨G, c, none⟩) (by simpa using hgG.symm) (.int .i64 (x + 1))
            have hR2 := hR.cell (a := ⟨G, c, none⟩) (by intro e; injection e with e; exact hgg e) (.int .i64 (x + 1))
            have hB2 := hB.setCell (p := ⟨G, c, none⟩) hGw (.int .i64 (x + 1))
            cases hbc : bs.getD c false with
            | true =>
              rw [hbc] at c0 hs
              rw [if_pos rfl] at hs
              rw [← hs] at hO2
              have K1 := Lib.hid hO2
              have K2 := Lib.hid hK2
              have K3 := Lib.hid hR2
              have K4 := Lib.hid hB2
              clear hO hO2 hK hK2 hR hR2 hB hB2 hbc hs hx
              go_wp2
              go_roundw
              case rel => exact ⟨c + 1, by omega, by go_num, K1.out, K2.out, K3.out, K4.out⟩
              case measure => simp [intOf]; omega
            | false =>
              rw [hbc] at c0 hs
              rw [if_neg (by simp)] at hs
              rw [← hs] at hO
              have K1 := Lib.hid hO
              have K2 := Lib.hid hK
              have K3 := Lib.hid hR
              have K4 := Lib.hid hB
              clear hO hO2 hK hK2 hR hR2 hB hB2 hbc hs hx c1
              go_wp2
              go_roundw
              case rel => exact ⟨c + 1, by omega, by go_num, K1.out, K2.out, K3.out, K4.out⟩
              case measure => simp [intOf]; omega
          · have e : c = 7 := by omega
            subst e
            rw [← hst'.out] at hO
            have K1 := Lib.hid hO
            have K3 := Lib.hid hR
            have K4 := Lib.hid hB
            clear hO hR hB hK
            go_wp2
            go_roundw
            case rel => exact ⟨k + 1, by omega, by go_num, K1.out, K3.out, K4.out⟩
            case measure => simp [intOf]; omega
      · have e : k = ds.length := by omega
        subst e
        have K1 := Lib.hid hO
        have K4 := Lib.hid hB
        clear hO hR hB
        go_wp2
        go_ret2
        exact ⟨some ⟨G, 0, none⟩, 7, by rw [G7.out]; rfl, Mn.new hGw K1.out, K4.out⟩
  · have nO : Own w1 w.heap.size (icells (totc K 0)) 2 := (show Own (w.alloc (.cells (icells [0, 0, 0, 0, 0, 0, 0]) 2)).drew w.heap.size (icells [0, 0, 0, 0, 0, 0, 0]) 2 from Own.new w _ _).below hB1 (show w.heap.size < (w.alloc (.cells (icells [0, 0, 0, 0, 0, 0, 0]) 2)).heap.size by simp)
    have nR : RowQ w1 w.heap.size (.slice (some ⟨g, 0, none⟩) ds.length cap) ds := hR1.base (show w.heap.size ≤ (w.alloc (.cells (icells [0, 0, 0, 0, 0, 0, 0]) 2)).heap.size by simp)
    have nB : Below w.heap.size w w1 := (((Below.refl w.heap.size w).alloc (Nat.le_refl _) _).drew).trans (hB1.mono (show w.heap.size ≤ (w.alloc (.cells (icells [0, 0, 0, 0, 0, 0, 0]) 2)).heap.size by simp))
    have hgg : ¬ g = w.heap.size := by have h : (w.alloc (.cells (icells [0, 0, 0, 0, 0, 0, 0]) 2)).heap.size ≤ g := hg; simp at h; omega
    have hGw : w.heap.size ≤ w.heap.size := Nat.le_refl _
    clear hR1 hB1 hg hgl
    have G7 := Lib.hid (totc_len K)
    have hbd := Lib.hid (totc_bd K)
    go_wp2
    go_loopw [6] (fun i wr => ∃ k : Nat, k ≤ ds.length ∧ i = .int .i64 k ∧ Own wr w.heap.size (icells (totc K k)) 2 ∧ RowQ wr w.heap.size (.slice (some ⟨g, 0, none⟩) ds.length cap) ds ∧ Below w.heap.size w wr) (fun i _ => (ds.length - intOf i).toNat)
    case atStart => exact ⟨0, by omega, rfl, nO, nR, nB⟩
    case round =>
      clear nO nR nB
      obtain ⟨k, hk, rfl, hO, hR, hB⟩ := hrel
      by_cases hlt : k < ds.length
      · obtain ⟨ms, hms, hm8, hKl, hki⟩ := hKS.out k hlt
        have hrd := Lib.hid (show ∀ j u, (dcells n ms).toList[j]? = some u → wr.cell? ((⟨g, k * 9, none⟩ : Addr).add j) = some u from by have h := hR.read h16.out k hlt; rw [hms] at h; exact h)
        have hl := Lib.hid hm8
        have h9 := Lib.hid (show (dcells n ms).toList.length = 9 from dl9 hm8)
        have hki' := Lib.hid hki
        have hst : totc K (k + 1) = upc (K k) (totc K k) 7 := rfl
        have cb := hbd.out k
        have cl := G7.out k
        obtain ⟨cs, hcs⟩ : ∃ cs, totc K k = cs := ⟨_, rfl⟩
        rw [hcs] at hst cb cl hO
        obtain ⟨bs, hbs⟩ : ∃ bs, K k = bs := ⟨_, rfl⟩
        rw [hbs] at hst hki' hKl
        have hst' := Lib.hid hst
        have ub := Lib.hid (upc_bd bs cs _ cb)
        have ul := Lib.hid (fun j => (upc_len bs cs j).trans cl)
        have kI : (k : Int) < (ds.length : Int) := by omega
        have hws := hB.size
        unfold KinPost at hki'
        clear hms hm8 hki hst hcs hbs cb
        go_wp2_with (first
          | (refine wpList_load_at rfl 38 (.tmp 23) rfl ⟨g, k * 9, none⟩ rfl (dcells n ms).toList _ hrd.out Try.underlying38 rfl (by rw [h9.out]; kernel_rfl) ?_)
          | (go_at_call 19; ((with_reducible refine (hki'.out _).mono ?_); rintro e w3 ⟨gk, rfl, hgk, hK3, hB3⟩)))
        have nO := hO.below hB3 hO.lt
        have nR := hR.below hB3 (Nat.le_refl _)
        have nB : Below w.heap.size w w3 := hB.trans (hB3.mono hws)
        have hgG : gk ≠ w.heap.size := by have := hO.lt; omega
        have nK := Lib.hid hK3
        clear hO hR hB hB3 hrd hki' hK3
        go_loopw [8] (fun j wj => ∃ c : Nat, c ≤ 7 ∧ j = .int .i64 c ∧ Own wj w.heap.size (icells (upc bs cs c)) 2 ∧ Own wj gk (bcl bs) 4 ∧ RowQ wj w.heap.size (.slice (some ⟨g, 0, none⟩) ds.length cap) ds ∧ Below w.heap.size w wj) (fun j _ => (7 - intOf j).toNat)
        case atStart => exact ⟨0, by omega, rfl, nO, nK.out, nR, nB⟩
        case round =>
          clear nO nR nB nK
          obtain ⟨c, hc7, rfl, hO, hK, hR, hB⟩ := hrel
          by_cases hl2 : c < 7
          · have cI : (c : Int) < 7 := by omega
            have c0 := hK.cell c
            rw [bcl_get _ _ (by rw [hKl]; omega)] at c0
            have c1 := hO.cell c
            rw [icells_get _ _ (by rw [ul.out c]; omega)] at c1
            have f1 := hO.free c
            have bb := ub.out c c
            have hs : upc bs cs (c + 1) = if bs.getD c false then (upc bs cs c).set c ((upc bs cs c).getD c 0 + 1) else upc bs cs c := rfl
            obtain ⟨x, hx⟩ : ∃ x, (upc bs cs c).getD c 0 = x := ⟨_, rfl⟩
            rw [hx] at c1 bb hs
            have hO2 := hO.set c (.int .i64 (x + 1))
            rw [icells_set] at hO2
            have hK2 := hK.other (a := ⟨w.heap.size, c, none⟩) (by simpa using hgG.symm) (.int .i64 (x + 1))
            have hR2 := hR.cell (a := ⟨w.heap.size, c, none⟩) (by intro e; injection e with e; exact hgg e) (.int .i64 (x + 1))
            have hB2 := hB.setCell (p := ⟨w.heap.size, c, none⟩) hGw (.int .i64 (x + 1))
            cases hbc : bs.getD c false with
            | true =>
              rw [hbc] at c0 hs
              rw [if_pos rfl] at hs
              rw [← hs] at hO2
              have K1 := Lib.hid hO2
              have K2 := Lib.hid hK2
              have K3 := Lib.hid hR2
              have K4 := Lib.hid hB2
              clear hO hO2 hK hK2 hR hR2 hB hB2 hbc hs hx
              go_wp2
              go_roundw
              case rel => exact ⟨c + 1, by omega, by go_num, K1.out, K2.out, K3.out, K4.out⟩
              case measure => simp [intOf]; omega
            | false =>
              rw [hbc] at c0 hs
              rw [if_neg (by simp)] at hs
              rw [← hs] at hO
              have K1 := Lib.hid hO
              have K2 := Lib.hid hK
              have K3 := Lib.hid hR
              have K4 := Lib.hid hB
              clear hO hO2 hK hK2 hR hR2 hB hB2 hbc hs hx c1
              go_wp2
              go_roundw
              case rel => exact ⟨c + 1, by omega, by go_num, K1.out, K2.out, K3.out, K4.out⟩
              case measure => simp [intOf]; omega
          · have e : c = 7 := by omega
            subst e
            rw [← hst'.out] at hO
            have K1 := Lib.hid hO
            have K3 := Lib.hid hR
            have K4 := Lib.hid hB
            clear hO hR hB hK
            go_wp2
            go_roundw
            case rel => exact ⟨k + 1, by omega, by go_num, K1.out, K3.out, K4.out⟩
            case measure => simp [intOf]; omega
      · have e : k = ds.length := by omega
        subst e
        have K1 := Lib.hid hO
        have K4 := Lib.hid hB
        clear hO hR hB
        go_wp2
        go_ret2
        exact ⟨some ⟨w.heap.size, 0, none⟩, 7, by rw [G7.out]; rfl, Mn.new hGw K1.out, K4.out⟩
set_option maxRecDepth 100000 in
set_option maxHeartbeats 4000000 in
theorem ck_walk (n : Int) (w : World) (xs : List Int) (hlx : xs.length ≤ 100000) (cd : Int)
    (hS : ∀ w, Calls Try.prog 10 #[.int .i64 n] w (ResI xs cd w))
    (hI : ∀ w, Calls Try.prog 11 #[.int .i64 n] w (ResI xs cd w)) :
    Calls Try.prog 4 #[.int .i64 n] w fun e w' => e = .returned (.bool true) ∧ Below w.heap.size w w' := by
  obtain ⟨l1, hm1⟩ : ∃ m, xs.length = m := ⟨_, rfl⟩
  have he1 := Lib.hid (fun p q cap cap' w hR hQ => eqI_same p q cap cap' xs (by omega) w hR hQ)
  have hk1 := Lib.hid (fun B p cap w hM hB => mark_all B p cap xs (by omega) 1 (by omega) (by omega) w hM hB)
  have hh1 := Lib.hid (fun p cap w hR => held_any p cap l1 (by omega) 1 (by omega) (by omega) w hR)
  have hrs : ∀ w e w', ResI xs cd w e w' → ∃ (p : Option Addr) (cap : Nat), e = .returned (.tuple #[.slice p l1 cap, .int .i64 cd]) ∧ Mn w' w.heap.size p xs ∧ Below w.heap.size w w' := fun w e w' h => by
    obtain ⟨p, cap, h1, h2⟩ := h
    rw [hm1] at h1
    exact ⟨p, cap, h1, h2⟩
  have hS' := Lib.hid (fun w => (hS w).mono (fun e w' h => hrs w e w' h))
  have hI' := Lib.hid (fun w => (hI w).mono (fun e w' h => hrs w e w' h))
  have ll1 : l1 ≤ 100000 := by omega
  rw [hm1] at he1 hk1
  clear hS hI hm1 hlx hrs
  go_enter Try.func4, Try.ntmps4
  go_wp2_with (first
    | (go_at_call 14; ((with_reducible refine (hh1.out _ _ w7 ((hp1b.below hB6 (Nat.le_refl _)).below hB7 (Nat.le_refl _)).rd).mono ?_); rintro e w8 ⟨rfl, rfl⟩))
    | (go_at_call 12; ((with_reducible refine (he1.out _ _ _ _ w6 hr1.rd (hq1b.below hB6 (Nat.le_refl _)).rd).mono ?_); rintro e w7 ⟨rfl, hB7⟩))
    | (go_at_call 11; ((with_reducible refine (hI'.out w5).mono ?_); rintro e w6 ⟨r1, rc1, rfl, hr1, hB6⟩))
    | (go_at_call 14; ((with_reducible refine (hh1.out _ _ w4 hp1b.rd).mono ?_); rintro e w5 ⟨rfl, rfl⟩))
    | (go_at_call 13; ((with_reducible refine (hk1.out w1.heap.size _ _ w3 (hp1.below hB3 (Nat.le_refl _)) (Nat.le_trans hB2.size hB3.size)).mono ?_); rintro e w4 ⟨rfl, hp1b, hB4, hX4⟩; have bq : Below w1.heap.size w1 w4 := ((hB2.trans (hB3.mono hB2.size)).trans hB4); have hq1b := hq1.below bq (Nat.le_refl _)))
    | (go_at_call 12; ((with_reducible refine (he1.out _ _ _ _ w2 hp1.rd (hq1.below hB2 (Nat.le_refl _)).rd).mono ?_); rintro e w3 ⟨rfl, hB3⟩))
    | (go_at_call 11; ((with_reducible refine (hI'.out w1).mono ?_); rintro e w2 ⟨p1, pc1, rfl, hp1, hB2⟩))
    | (go_at_call 10; ((with_reducible refine (hS'.out w).mono ?_); rintro e w1 ⟨q1, qc1, rfl, hq1, hB1⟩)))
  go_ret
  have b1 := hB1.trans (bq.mono hB1.size)
  have b2 := b1.trans (hB6.mono b1.size)
  exact ⟨rfl, b2.trans (hB7.mono b2.size)⟩
theorem ckI_bad (n : Int) (h : n < 1 ∨ 4 < n) (w : World) : Calls Try.prog 11 #[.int .i64 n] w (ResI [] 2 w) := by
  have hh := Lib.hid (fun w => hgt_f n w h)
  clear h
  go_enter Try.func11, Try.ntmps11
  go_wp2_with (first
    | (go_at_call 20; ((with_reducible refine (hh.out _).mono ?_); rintro e w0 ⟨rfl, rfl⟩)))
  go_ret2
  exact ⟨none, 0, rfl, Mn.nil _ _, Below.refl _ _⟩
theorem ckS_bad (n : Int) (h : n < 1 ∨ 4 < n) (w : World) : Calls Try.prog 10 #[.int .i64 n] w (ResI [] 2 w) := by
  have hh := Lib.hid h
  clear h
  go_enter Try.func10, Try.ntmps10
  go_wp2_with (first
    | (go_at_call 15; ((with_reducible refine (inS_f _ _ _ _ hh.out).mono ?_); rintro e w0 ⟨rfl, rfl⟩)))
  go_ret2
  exact ⟨none, 0, rfl, Mn.nil _ _, Below.refl _ _⟩
theorem ck_law (n : Int) (w : World) : Calls Try.prog 4 #[.int .i64 n] w fun e w' => e = .returned (.bool true) ∧ Below w.heap.size w w' := by
  by_cases h : 1 ≤ n ∧ n ≤ 4
  · obtain ⟨h1, h4⟩ := h
    obtain ⟨N, rfl⟩ : ∃ N : Nat, n = N := ⟨n.toNat, by omega⟩
    have hx : ∀ k : Nat, ∃ bs : List Bool, k < (allP N).length → ∃ ms, (allP N).getD k (0, zer8) = ((N : Int), ms) ∧ ms.length = 8 ∧ bs.length = 7 ∧ (∀ w, Calls Try.prog 21 #[.agg (dcells N ms)] w (KinPost bs w)) ∧ (∀ w, Calls Try.prog 19 #[.agg (dcells N ms)] w (KinPost bs w)) := by
      intro k
      by_cases hk : k < (allP N).length
      · obtain ⟨ms, hg, h8, hN⟩ := allP_get N (by omega) k hk
        obtain ⟨bs, hb, hI, hS⟩ := kin_both N ms h8 hN (by omega) (by omega)
        exact ⟨bs, fun _ => ⟨ms, hg, h8, hb, hI, hS⟩⟩
      · exact ⟨[], fun h => absurd h hk⟩
    obtain ⟨K, hK⟩ := Classical.skolem.1 hx
    have hI := ckI_ok N (by omega) (by omega) K (fun k hk => by obtain ⟨ms, a, b, c, d, e⟩ := hK k hk; exact ⟨ms, a, b, c, d⟩)
    have hS := ckS_ok N (by omega) (by omega) K (fun k hk => by obtain ⟨ms, a, b, c, d, e⟩ := hK k hk; exact ⟨ms, a, b, c, e⟩)
    exact ck_walk N w _ (by rw [totc_len]; omega) 0 hS hI
  · have hb : n < 1 ∨ 4 < n := by omega
    exact ck_walk n w [] (by simp) 2 (ckS_bad n hb) (ckI_bad n hb)
end Go.Proofs.Ythjgcakpimbcbaa
