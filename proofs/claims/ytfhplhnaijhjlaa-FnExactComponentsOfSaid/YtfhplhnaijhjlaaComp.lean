/- ComponentsOf: program, model and law. -/
import Derived.Test.YtfhplhnaijhjlaaBpS
import Derived.Deep.LoopGhost
namespace Go.Proofs.Ytfhplhnaijhjlaa
open Go.RowKit
set_option linter.unusedVariables false
def b6cells (mb : List Bool) : Array Value := (mb.map Value.bool).toArray
def falses6 : List Bool := List.replicate 6 false
theorem b6_get (mb : List Bool) (i : Nat) (h : i < mb.length) : (b6cells mb)[i]? = some (.bool (mb.getD i true)) := by simp [b6cells, h]
theorem b6_set (mb : List Bool) (i : Nat) (x : Bool) : (b6cells mb).setIfInBounds i (.bool x) = b6cells (mb.set i x) := by simp [b6cells, List.map_set]
/-- Along a cycle, from a place on: what has been met. -/
def cyW (L : List Int) : Nat → Nat → List Bool → List Bool
  | 0, _, mb => mb
  | f + 1, p, mb => if mb.getD p true then mb else cyW L f (L.getD p 0).toNat (mb.set p true)
/-- What has been met, and how many cycles, behind k places. -/
def cyL (L : List Int) : Nat → List Bool × Int
  | 0 => (falses6, 0)
  | k + 1 => if (cyL L k).1.getD k true then cyL L k else (cyW L 6 k (cyL L k).1, (cyL L k).2 + 1)
theorem cyW_len (L : List Int) (f : Nat) (p : Nat) (mb : List Bool) : (cyW L f p mb).length = mb.length := by
  induction f generalizing p mb with
  | zero => rfl
  | succ f ih => unfold cyW; split <;> simp [ih]
theorem cyL_len (L : List Int) (k : Nat) : (cyL L k).1.length = 6 := by
  induction k with
  | zero => rfl
  | succ k ih => unfold cyL; split <;> simp [cyW_len, ih]
theorem cyL_bd (L : List Int) (k : Nat) : 0 ≤ (cyL L k).2 ∧ (cyL L k).2 ≤ k := by
  induction k with
  | zero => simp [cyL]
  | succ k ih => unfold cyL; split <;> simp <;> omega
theorem cyW_met (L : List Int) (f : Nat) (p : Nat) (mb : List Bool) (h : mb.getD p true = true) : cyW L f p mb = mb := by
  cases f with
  | zero => rfl
  | succ f => unfold cyW; rw [if_pos h]
theorem cyW_step (L : List Int) (f : Nat) (p : Nat) (mb : List Bool) (h : mb.getD p true = false) : cyW L (f + 1) p mb = cyW L f (L.getD p 0).toNat (mb.set p true) := by
  rw [cyW, if_neg (by rw [h]; simp)]
theorem cnt_lt6 (mb : List Bool) (i : Nat) (h : mb.getD i true = false) : (mb.set i true).count false + 1 = mb.count false := by
  induction mb generalizing i with
  | nil => simp at h
  | cons b mb ih =>
    cases i with
    | zero => simp at h; subst h; simp
    | succ i => have := ih i (by simpa using h); cases b <;> simp_all
theorem inv_sml {n : Nat} {l : List Int} (hl : l.length = n) (hn : 1 ≤ n) : ∀ k, k ≤ n → Sml n (inv l k)
  | 0, _ => ⟨by simp [inv, hl], fun j hj => by simp [inv, hl, hj]; omega⟩
  | k + 1, hk => by
    obtain ⟨a, b⟩ := inv_sml hl hn k (by omega)
    refine ⟨by rw [inv_len, hl], fun j hj => ?_⟩
    rw [inv]
    by_cases e : (l.getD k 0).toNat < (inv l k).length
    · rw [getD_set _ _ _ _ e]
      split
      · omega
      · exact b j hj
    · rw [List.set_eq_of_length_le (by omega)]; exact b j hj
theorem bprm_sml {n : Int} {xs : List Int} (h : brdB n xs = true) : Sml n.toNat (bprm n xs) := by
  have := (bat_sml h xs.length).1
  rw [List.take_length] at this
  exact inv_sml this (by have := (brdB_t h).1; omega) _ (Nat.le_refl _)
theorem built6 : Try.prog.built 44 [] = some (b6cells falses6) := by kernel_rfl
theorem row6 : (Try.prog.info? 44).map (·.size) = some (b6cells falses6).size := by kernel_rfl
set_option maxRecDepth 100000 in
theorem compI_bad (n : Int) (p : Option Addr) (cap : Nat) (xs : List Int) (w : World) (hx : xs.length ≤ 1048576) (hR : Rd w p xs) (h : brdB n xs = false) :
    Calls Try.prog 21 #[.int .i64 n, .slice p xs.length cap] w fun e w' => e = .returned (.tuple #[.int .i64 0, .int .i64 2]) ∧ Below w.heap.size w w' := by
  have hc := Lib.hid (fun w hR => isBraidI_any n p cap xs w hx hR)
  rw [h] at hc
  have hR' := Lib.hid hR
  clear hR h
  go_enter Try.func21, Try.ntmps21
  go_wp2_with (first
    | (go_at_call 34; ((with_reducible refine (hc.out _ hR'.out).mono ?_); rintro e w1 ⟨rfl, rfl⟩)))
  go_ret2
  exact ⟨rfl, Below.refl _ _⟩
set_option maxRecDepth 100000 in
set_option maxHeartbeats 2000000 in
theorem compI_ok (n : Int) (p : Option Addr) (cap : Nat) (xs : List Int) (w : World) (hR : Rd w p xs) (h : brdB n xs = true) :
    Calls Try.prog 21 #[.int .i64 n, .slice p xs.length cap] w fun e w' => e = .returned (.tuple #[.int .i64 (cyL (bprm n xs) n.toNat).2, .int .i64 0]) ∧ Below w.heap.size w w' := by
  have hx := (brdB_t h).1.2.2
  have hc := Lib.hid (fun w hR => isBraidI_any n p cap xs w (by omega) hR)
  have he := Lib.hid (fun w hR => endsI_any n p cap xs w hR h)
  rw [h] at hc
  have hR' := Lib.hid hR
  obtain ⟨N, hNN⟩ : ∃ N : Nat, n = N := ⟨n.toNat, by have := (brdB_t h).1.1; omega⟩
  subst hNN
  have n2 := (brdB_t h).1.1
  have n6 := (brdB_t h).1.2.1
  have hl0 := bprm_len h
  have hs0 := bprm_sml h
  rw [Int.toNat_natCast] at hl0 hs0 ⊢
  rw [hl0] at he
  generalize bprm N xs = L at *
  have hl := Lib.hid hl0
  have hs := Lib.hid hs0
  clear hR h hl0 hs0
  go_enter Try.func21, Try.ntmps21
  go_wp2_with (first
    | (go_at_call 34; ((with_reducible refine (hc.out _ hR'.out).mono ?_); rintro e w1 ⟨rfl, rfl⟩))
    | (go_at_call 37; ((with_reducible refine (he.out _ hR'.out).mono ?_); rintro e w2 ⟨⟨q, c2, rfl, hM⟩, hB⟩)))
  obtain ⟨ad, rfl⟩ := rd_some hM.rd (k := 0) (by rw [hl.out]; omega)
  have hMa : Own (w2.alloc (.cells (b6cells falses6) 44)) w2.heap.size (b6cells falses6) 44 := Own.new _ _ _
  have hBa : Below w2.heap.size w2 (w2.alloc (.cells (b6cells falses6) 44)) := (Below.refl _ _).alloc (Nat.le_refl _) _
  have hRd := Lib.hid hM.rd
  have hBw := Lib.hid hB
  clear hM hB
  go_loopw [8, 19] (fun t i wr => ∃ k : Nat, k ≤ N ∧ i = .int .i64 k ∧ t = .int .i64 (cyL L k).2 ∧ Own wr w2.heap.size (b6cells (cyL L k).1) 44 ∧ Below w2.heap.size w2 wr) (fun _ i _ => ((N : Int) - intOf i).toNat)
  case atStart => exact ⟨0, by omega, rfl, rfl, hMa, hBa⟩
  case round =>
    clear hMa hBa
    obtain ⟨k, hk, rfl, rfl, hM, hB⟩ := hrel
    have hkl := cyL_len L k
    have hkb := cyL_bd L k
    by_cases hlt : k < N
    · have k1 := hM.cell k
      rw [b6_get _ _ (by rw [hkl]; omega)] at k1
      obtain ⟨b, hbq⟩ : ∃ b, (cyL L k).1.getD k true = b := ⟨_, rfl⟩
      rw [hbq] at k1
      have hlt6 : (k : Int) < 6 := by omega
      cases b with
      | true =>
        have e1 := Lib.hid (show cyL L (k + 1) = cyL L k by rw [cyL, if_pos hbq])
        clear hbq
        go_wp2
        go_roundw
        case rel => exact ⟨k + 1, by omega, by go_num, by rw [e1.out], by rw [e1.out]; exact hM, hB⟩
        case measure => simp [intOf]; omega
      | false =>
        have e1 := Lib.hid (show cyL L (k + 1) = (cyW L 6 k (cyL L k).1, (cyL L k).2 + 1) by rw [cyL, if_neg (by rw [hbq]; simp)])
        obtain ⟨mb0, hmb0⟩ : ∃ mb0, (cyL L k).1 = mb0 := ⟨_, rfl⟩
        obtain ⟨c, hcc⟩ : ∃ c, (cyL L k).2 = c := ⟨_, rfl⟩
        rw [hmb0] at hM hkl e1 hbq
        rw [hcc] at hkb e1 ⊢
        clear hmb0 hcc hbq
        go_wp2
        obtain ⟨wo, rfl⟩ : ∃ wo : World, wo = wr := ⟨_, rfl⟩
        have h6 : mb0.count false ≤ 6 := by rw [← hkl]; exact List.count_le_length
        go_loopg [10] 6 (fun f p wx => ∃ (q : Nat) (mb : List Bool), q < N ∧ p = .int .i64 q ∧ Hid (mb.length = 6) ∧ mb.count false ≤ f ∧ Hid (cyW L f q mb = cyW L 6 k mb0) ∧ Own wx w2.heap.size (b6cells mb) 44 ∧ Below w2.heap.size w2 wx)
        case atStart => exact ⟨k, mb0, hlt, rfl, Lib.hid hkl, h6, Lib.hid rfl, hM, hB⟩
        case round =>
          clear hM hB k1 hkl h6
          obtain ⟨q, mb, hq, rfl, hml, hcnt, hW, hM, hB⟩ := hrel
          have j1 := hM.cell q
          rw [b6_get _ _ (by rw [hml.out]; omega)] at j1
          obtain ⟨b, hbq⟩ : ∃ b, mb.getD q true = b := ⟨_, rfl⟩
          rw [hbq] at j1
          have q6 : (q : Int) < 6 := by omega
          cases b with
          | true =>
            have e2 := Lib.hid (show cyW L 6 k mb0 = mb by rw [← hW.out, cyW_met _ _ _ _ hbq])
            have e3 := Lib.hid (show cyL L (k + 1) = (mb, c + 1) by rw [e1.out, e2.out])
            clear hbq hW e2 e1
            go_wp2
            go_roundw
            case rel => exact ⟨k + 1, by omega, by go_num, by rw [e3.out], by rw [e3.out]; exact hM, hB⟩
            case measure => simp [intOf]; omega
          | false =>
            obtain ⟨f', hf⟩ : ∃ f', gk = f' + 1 := ⟨gk - 1, by have := cnt_lt6 mb q hbq; omega⟩
            subst hf
            have hst := cyW_step L f' q mb hbq
            have rg := hs.out.2 q hq
            have f1 := hM.free q
            have hM2 := hM.set q (.bool true)
            rw [b6_set] at hM2
            have hB2 := hB.setCell (p := ⟨w2.heap.size, q, none⟩) (by simp) (.bool true)
            have c1 := (hRd.out.below hB2).cell ad rfl q (by rw [hl.out]; exact hq)
            obtain ⟨y, hy⟩ : ∃ y : Nat, L.getD q 0 = y := ⟨(L.getD q 0).toNat, by omega⟩
            rw [hy] at c1 rg hst
            rw [Int.toNat_natCast] at hst
            have y1 : y < N := by omega
            have hcnt2 := Lib.hid (show (mb.set q true).count false ≤ f' by have := cnt_lt6 mb q hbq; omega)
            have hW2 := Lib.hid (hst.symm.trans hW.out)
            have hL2 := Lib.hid (show (mb.set q true).length = 6 by rw [List.length_set]; exact hml.out)
            have K1 := Lib.hid hM2
            have K3 := Lib.hid hB2
            clear hM2 hB2 hst hy hW hcnt hbq rg
            go_wp2
            go_roundg f'
            case measure => omega
            case rel => exact ⟨y, _, y1, rfl, hL2, hcnt2.out, hW2, K1.out, K3.out⟩
    · obtain rfl : k = N := by omega
      go_wp2
      go_ret2
      exact ⟨rfl, hBw.out.trans (hB.mono hBw.out.size)⟩
set_option maxRecDepth 100000 in
theorem compS_bad (n : Int) (p : Option Addr) (cap : Nat) (xs : List Int) (w : World) (hx : xs.length ≤ 1048576) (hR : Rd w p xs) (h : brdB n xs = false) :
    Calls Try.prog 20 #[.int .i64 n, .slice p xs.length cap] w fun e w' => e = .returned (.tuple #[.int .i64 0, .int .i64 2]) ∧ Below w.heap.size w w' := by
  have hc := Lib.hid (fun w hR => isBraidS_any n p cap xs w hx hR)
  rw [h] at hc
  have hR' := Lib.hid hR
  clear hR h
  go_enter Try.func20, Try.ntmps20
  go_wp2_with (first
    | (go_at_call 32; ((with_reducible refine (hc.out _ hR'.out).mono ?_); rintro e w1 ⟨rfl, rfl⟩)))
  go_ret2
  exact ⟨rfl, Below.refl _ _⟩
set_option maxRecDepth 100000 in
set_option maxHeartbeats 2000000 in
theorem compS_ok (n : Int) (p : Option Addr) (cap : Nat) (xs : List Int) (w : World) (hR : Rd w p xs) (h : brdB n xs = true) :
    Calls Try.prog 20 #[.int .i64 n, .slice p xs.length cap] w fun e w' => e = .returned (.tuple #[.int .i64 (cyL (bprm n xs) n.toNat).2, .int .i64 0]) ∧ Below w.heap.size w w' := by
  have hx := (brdB_t h).1.2.2
  have hc := Lib.hid (fun w hR => isBraidS_any n p cap xs w (by omega) hR)
  have he := Lib.hid (fun w hR => endsS_any' n p cap xs w hR h)
  rw [h] at hc
  have hR' := Lib.hid hR
  obtain ⟨N, hNN⟩ : ∃ N : Nat, n = N := ⟨n.toNat, by have := (brdB_t h).1.1; omega⟩
  subst hNN
  have n2 := (brdB_t h).1.1
  have n6 := (brdB_t h).1.2.1
  have hl0 := bprm_len h
  have hs0 := bprm_sml h
  rw [Int.toNat_natCast] at hl0 hs0 ⊢
  rw [hl0] at he
  generalize bprm N xs = L at *
  have hl := Lib.hid hl0
  have hs := Lib.hid hs0
  clear hR h hl0 hs0
  go_enter Try.func20, Try.ntmps20
  go_wp2_with (first
    | (go_at_call 32; ((with_reducible refine (hc.out _ hR'.out).mono ?_); rintro e w1 ⟨rfl, rfl⟩))
    | (go_at_call 36; ((with_reducible refine (he.out _ hR'.out).mono ?_); rintro e w2 ⟨⟨q, c2, rfl, hM⟩, hB⟩))
    | (refine wpList_build_of rfl 44 #[] rfl (b6cells falses6) ?_ ?_; (exact built6))
    | (refine wpList_store_own rfl 44 _ _ rfl _ _ rfl rfl 44 _ (Own.new _ _ _) row6 rfl (by simp [b6cells, falses6, Value.oneCell']) ?_; intro w4 hO4 hN4))
  obtain ⟨ad, rfl⟩ := rd_some hM.rd (k := 0) (by rw [hl.out]; omega)
  have hMa : Own w4 w2.heap.size (b6cells falses6) 44 := hO4
  have hBa : Below w2.heap.size w2 w4 := ((Below.refl _ _).alloc (Nat.le_refl _) _).trans (hN4.below.mono (Nat.le_refl _))
  clear hO4 hN4
  have hRd := Lib.hid hM.rd
  have hBw := Lib.hid hB
  clear hM hB
  go_loopw [8, 9] (fun t i wr => ∃ k : Nat, k ≤ N ∧ i = .int .i64 k ∧ t = .int .i64 (cyL L k).2 ∧ Own wr w2.heap.size (b6cells (cyL L k).1) 44 ∧ Below w2.heap.size w2 wr) (fun _ i _ => ((N : Int) - intOf i).toNat)
  case atStart => exact ⟨0, by omega, rfl, rfl, hMa, hBa⟩
  case round =>
    clear hMa hBa
    obtain ⟨k, hk, rfl, rfl, hM, hB⟩ := hrel
    have hkl := cyL_len L k
    have hkb := cyL_bd L k
    by_cases hlt : k < N
    · have k1 := hM.cell k
      rw [b6_get _ _ (by rw [hkl]; omega)] at k1
      obtain ⟨b, hbq⟩ : ∃ b, (cyL L k).1.getD k true = b := ⟨_, rfl⟩
      rw [hbq] at k1
      have hlt6 : (k : Int) < 6 := by omega
      cases b with
      | true =>
        have e1 := Lib.hid (show cyL L (k + 1) = cyL L k by rw [cyL, if_pos hbq])
        clear hbq
        go_wp2
        go_roundw
        case rel => exact ⟨k + 1, by omega, by go_num, by rw [e1.out], by rw [e1.out]; exact hM, hB⟩
        case measure => simp [intOf]; omega
      | false =>
        have e1 := Lib.hid (show cyL L (k + 1) = (cyW L 6 k (cyL L k).1, (cyL L k).2 + 1) by rw [cyL, if_neg (by rw [hbq]; simp)])
        obtain ⟨mb0, hmb0⟩ : ∃ mb0, (cyL L k).1 = mb0 := ⟨_, rfl⟩
        obtain ⟨c, hcc⟩ : ∃ c, (cyL L k).2 = c := ⟨_, rfl⟩
        rw [hmb0] at hM hkl e1 hbq
        rw [hcc] at hkb e1 ⊢
        clear hmb0 hcc hbq
        go_wp2
        obtain ⟨wo, rfl⟩ : ∃ wo : World, wo = wr := ⟨_, rfl⟩
        have h6 : mb0.count false ≤ 6 := by rw [← hkl]; exact List.count_le_length
        go_loopg [10] 6 (fun f p wx => ∃ (q : Nat) (mb : List Bool), q < N ∧ p = .int .i64 q ∧ Hid (mb.length = 6) ∧ mb.count false ≤ f ∧ Hid (cyW L f q mb = cyW L 6 k mb0) ∧ Own wx w2.heap.size (b6cells mb) 44 ∧ Below w2.heap.size w2 wx)
        case atStart => exact ⟨k, mb0, hlt, rfl, Lib.hid hkl, h6, Lib.hid rfl, hM, hB⟩
        case round =>
          clear hM hB k1 hkl h6
          obtain ⟨q, mb, hq, rfl, hml, hcnt, hW, hM, hB⟩ := hrel
          have j1 := hM.cell q
          rw [b6_get _ _ (by rw [hml.out]; omega)] at j1
          obtain ⟨b, hbq⟩ : ∃ b, mb.getD q true = b := ⟨_, rfl⟩
          rw [hbq] at j1
          have q6 : (q : Int) < 6 := by omega
          cases b with
          | true =>
            have e2 := Lib.hid (show cyW L 6 k mb0 = mb by rw [← hW.out, cyW_met _ _ _ _ hbq])
            have e3 := Lib.hid (show cyL L (k + 1) = (mb, c + 1) by rw [e1.out, e2.out])
            clear hbq hW e2 e1
            go_wp2
            go_roundw
            case rel => exact ⟨k + 1, by omega, by go_num, by rw [e3.out], by rw [e3.out]; exact hM, hB⟩
            case measure => simp [intOf]; omega
          | false =>
            obtain ⟨f', hf⟩ : ∃ f', gk = f' + 1 := ⟨gk - 1, by have := cnt_lt6 mb q hbq; omega⟩
            subst hf
            have hst := cyW_step L f' q mb hbq
            have rg := hs.out.2 q hq
            have f1 := hM.free q
            have hM2 := hM.set q (.bool true)
            rw [b6_set] at hM2
            have hB2 := hB.setCell (p := ⟨w2.heap.size, q, none⟩) (by simp) (.bool true)
            have c1 := (hRd.out.below hB2).cell ad rfl q (by rw [hl.out]; exact hq)
            obtain ⟨y, hy⟩ : ∃ y : Nat, L.getD q 0 = y := ⟨(L.getD q 0).toNat, by omega⟩
            rw [hy] at c1 rg hst
            rw [Int.toNat_natCast] at hst
            have y1 : y < N := by omega
            have hcnt2 := Lib.hid (show (mb.set q true).count false ≤ f' by have := cnt_lt6 mb q hbq; omega)
            have hW2 := Lib.hid (hst.symm.trans hW.out)
            have hL2 := Lib.hid (show (mb.set q true).length = 6 by rw [List.length_set]; exact hml.out)
            have K1 := Lib.hid hM2
            have K3 := Lib.hid hB2
            clear hM2 hB2 hst hy hW hcnt hbq rg
            go_wp2
            go_roundg f'
            case measure => omega
            case rel => exact ⟨y, _, y1, rfl, hL2, hcnt2.out, hW2, K1.out, K3.out⟩
    · obtain rfl : k = N := by omega
      go_wp2
      go_ret2
      exact ⟨rfl, hBw.out.trans (hB.mono hBw.out.size)⟩
set_option maxRecDepth 100000 in
set_option maxHeartbeats 4000000 in
theorem comp_walk (n : Int) (p : Option Addr) (cap : Nat) (xs : List Int) (w : World) (hx : xs.length ≤ 1048576) (hR : Rd w p xs) (x y : Int)
    (hS : ∀ w (q : Addr), Rd w (some q) xs → Calls Try.prog 20 #[.int .i64 n, .slice (some q) xs.length xs.length] w fun e w' => e = .returned (.tuple #[.int .i64 x, .int .i64 y]) ∧ Below w.heap.size w w')
    (hI : ∀ w (q : Addr), Rd w (some q) xs → Calls Try.prog 21 #[.int .i64 n, .slice (some q) xs.length xs.length] w fun e w' => e = .returned (.tuple #[.int .i64 x, .int .i64 y]) ∧ Below w.heap.size w w') :
    Calls Try.prog 6 #[.int .i64 n, .slice p xs.length cap] w fun e w' => e = .returned (.bool true) ∧ Below w.heap.size w w' := by
  obtain ⟨l0, hm0⟩ : ∃ m, xs.length = m := ⟨_, rfl⟩
  have he0 := Lib.hid (fun p q cap cap' w hR hQ => eqI_same p q cap cap' xs (by omega) w hR hQ)
  have hc := Lib.hid (fun w hR => toI_any p cap xs hx w hR)
  have hS' := Lib.hid hS
  have hI' := Lib.hid hI
  have hR' := Lib.hid hR
  have hx' : ¬ (1048576 : Int) < (l0 : Int) := by omega
  rw [hm0] at he0 hc hS' hI' ⊢
  clear hS hI hm0 hR hx
  go_enter Try.func6, Try.ntmps6
  go_wp2_with (first
    | (go_at_call 15; ((with_reducible refine (he0.out _ _ _ _ w5 (Rd.own (hO34.below hB5 hO34.lt)) (Rd.own hO5)).mono ?_); rintro e w6 ⟨rfl, hB6⟩; have b6 := b5.trans (hB6.mono b5.size)))
    | (go_at_call 13; ((with_reducible refine (hc.out w4 (hR'.out.below b4)).mono ?_); rintro e w5 ⟨rfl, hO5, hB5⟩; have b5 := b4.trans (hB5.mono b4.size)))
    | (go_at_call 21; ((with_reducible refine (hI'.out w3 _ (Rd.own hO3)).mono ?_); rintro e w4 ⟨rfl, hB4⟩; have b4 := b3.trans (hB4.mono b3.size); have hO34 := hO3.below hB4 hO3.lt))
    | (go_at_call 13; ((with_reducible refine (hc.out w2 (hR'.out.below b2)).mono ?_); rintro e w3 ⟨rfl, hO3, hB3⟩; have b3 := b2.trans (hB3.mono b2.size)))
    | (go_at_call 20; ((with_reducible refine (hS'.out w1 _ (Rd.own hO1)).mono ?_); rintro e w2 ⟨rfl, hB2⟩; have b2 := hB1.trans (hB2.mono hB1.size)))
    | (go_at_call 13; ((with_reducible refine (hc.out w hR'.out).mono ?_); rintro e w1 ⟨rfl, hO1, hB1⟩)))
  go_ret
  exact ⟨rfl, b6⟩
theorem comp_big (n : Int) (p : Option Addr) (cap : Nat) (len : Nat) (w : World) (hm : len ≤ maxLen) (h : 1048576 < len) : Calls Try.prog 6 #[.int .i64 n, .slice p len cap] w fun e w' => e = .returned (.bool true) ∧ Below w.heap.size w w' := by
  unfold maxLen at hm
  have h' : (1048576 : Int) < (len : Int) := by omega
  go_enter Try.func6, Try.ntmps6
  go_wp2
  go_ret
  exact ⟨rfl, Below.refl _ _⟩
theorem comp_law (n : Int) (p : Option Addr) (cap : Nat) (xs : List Int) (w : World) (hm : xs.length ≤ maxLen) (hR : Rd w p xs) :
    Calls Try.prog 6 #[.int .i64 n, .slice p xs.length cap] w fun e w' => e = .returned (.bool true) ∧ Below w.heap.size w w' := by
  by_cases h : xs.length ≤ 1048576
  · cases hb : brdB n xs with
    | false => exact comp_walk n p cap xs w h hR 0 2 (fun w q hR => compS_bad n _ _ xs w h hR hb) (fun w q hR => compI_bad n _ _ xs w h hR hb)
    | true => exact comp_walk n p cap xs w h hR _ 0 (fun w q hR => compS_ok n _ _ xs w hR hb) (fun w q hR => compI_ok n _ _ xs w hR hb)
  · exact comp_big n p cap xs.length w hm (by omega)
end Go.Proofs.Ytfhplhnaijhjlaa
