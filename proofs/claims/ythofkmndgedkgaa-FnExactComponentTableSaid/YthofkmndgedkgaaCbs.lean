/- CountByComponents: the model's, the law. -/
import Derived.Test.YthofkmndgedkgaaCbi
import Derived.Test.YthofkmndgedkgaaTbs
import Derived.Deep.RegionWith
namespace Go.Proofs.Ythofkmndgedkgaa
open Go.RowKit
set_option linter.unusedVariables false
set_option linter.unusedSimpArgs false
/-- The rows are there, and none in the block g. -/
def RwD (w : World) (B g m : Nat) (LL : List (List UInt8)) (n : Nat) (vs : List Value) : Prop :=
  ∀ i, i < n → ∃ ga cap, vs[i]? = some (.slice (some ⟨ga, 0, none⟩) n cap) ∧ ga ≠ g ∧ Ints w B ga cap (rwN m LL i n)
theorem cell_only {w w' : World} {b g j : Nat} (h : Only b w w') (hg : g ≠ b) : w'.cell? ⟨g, j, none⟩ = w.cell? ⟨g, j, none⟩ := by
  unfold World.cell?
  rw [show w'.heap[(⟨g, j, none⟩ : Addr).block]? = w.heap[(⟨g, j, none⟩ : Addr).block]? from h.other g hg]
set_option maxRecDepth 100000 in
set_option maxHeartbeats 4000000 in
theorem cbS_ok (m : Nat) (h1 : 1 ≤ m) (h5 : m ≤ 5) (n : Nat) (hn : (allH (2 * m) 0).length = n) (h0 : 1 ≤ n) (w : World) :
    Calls Try.prog 24 #[.int .i64 m] w (ResI (ccT m (allH (2 * m) 0) n n) 0 w) := by
  have hlen := allH_len12 m h1 (by omega)
  rw [hn] at hlen
  have hA := Lib.hid (fun w => inS_t (m : Int) 1 5 w (by omega) (by omega))
  have hT := Lib.hid (fun w => (tbS_ok m h1 (by omega) n hn w).mono fun e w' (h : ∃ v vs, e = .returned v ∧ Rws w' w.heap.size v vs ∧ vs.length = n ∧ RwT w' w.heap.size m (allH (2 * m) 0) n vs n ∧ Below w.heap.size w w') => show ∃ gt ct vs, e = .returned (.slice (some ⟨gt, 0, none⟩) n ct) ∧ w.heap.size ≤ gt ∧ gt < w'.heap.size ∧ (∀ j, j < n → w'.cell? ⟨gt, j, none⟩ = vs[j]?) ∧ RwT w' w.heap.size m (allH (2 * m) 0) n vs n ∧ Below w.heap.size w w' from by
    obtain ⟨v, vs, q1, q2, q3, q4, q5⟩ := h
    rcases q2.shape with ⟨s1, s2⟩ | ⟨g, cap, s1, s2, s3, s4⟩
    · rw [s2] at q3; simp at q3; omega
    · rw [q3] at s1 s4
      exact ⟨g, cap, vs, by rw [q1, s1], s2, s3, s4, q4, q5⟩)
  have hbd := tbN_bd m h1 h5
  rw [hn] at hbd
  have hbd := Lib.hid hbd
  have hbn := Lib.hid (fun k => ccT_bd m (allH (2 * m) 0) n (by omega) k)
  have hmk := makeI m (by omega)
  generalize allH (2 * m) 0 = LL at *
  clear hn
  go_enter Try.func24, Try.ntmps24
  go_wp2_with (first
    | (go_at_call 64; ((with_reducible refine (hA.out _).mono ?_); rintro e w0 ⟨rfl, rfl⟩)))
  go_region_with (first
    | (go_at_call 74; ((with_reducible refine (hT.out _).mono ?_); rintro e w2 ⟨gt, ct, vs, rfl, hg1, hg2, hc, hRT, hB2⟩)))
  · -- A
    have b0 : Below w.heap.size w w.drew := (Below.refl _ w).drew
    have bA : Below w.heap.size w w2 := b0.trans hB2
    have hsw := bA.size
    have hO0 : Own (w2.alloc (.cells (icells (List.replicate m 0)) 2)) w2.heap.size (icells (ccT m LL n 0)) 2 := Own.new w2 _ _
    have hcW : ∀ j, j < n → (w2.alloc (.cells (icells (List.replicate m 0)) 2)).cell? ⟨gt, j, none⟩ = vs[j]? := fun j hj => by
      rw [((Below.refl w2.heap.size w2).alloc (Nat.le_refl _) _).cell (p := ⟨gt, j, none⟩) hg2]; exact hc j hj
    have hRD : RwD (w2.alloc (.cells (icells (List.replicate m 0)) 2)) w.heap.size w2.heap.size m LL n vs := fun i hi => by
      obtain ⟨ga, cap, q1, q2⟩ := hRT i hi
      exact ⟨ga, cap, q1, by have := q2.lt; omega, q2.alloc _⟩
    have hgG : gt ≠ w2.heap.size := by omega
    have hB : Below w.heap.size w (w2.alloc (.cells (icells (List.replicate m 0)) 2)) := bA.alloc hsw _
    have hGw : w.heap.size ≤ w2.heap.size := hsw
    clear hc hRT hB2 hg1 bA b0 hmk
    generalize w2.alloc (.cells (icells (List.replicate m 0)) 2) = W at *
    obtain ⟨G, hG⟩ : ∃ G, w2.heap.size = G := ⟨_, rfl⟩
    rw [hG] at hO0 hRD hgG hGw ⊢
    have HD := Lib.hid hRD
    have HC := Lib.hid hcW
    have HB := Lib.hid hB
    have HG := Lib.hid hG
    have HW := Lib.hid hGw
    clear hRD hcW hB hG hGw
    go_wp2
    go_loopw [6] (fun i wr => ∃ k : Nat, k ≤ n ∧ i = .int .i64 k ∧ Own wr G (icells (ccT m LL n k)) 2 ∧ Only G W wr) (fun i _ => ((n : Int) - intOf i).toNat)
    case atStart => exact ⟨0, by omega, rfl, hO0, Only.refl _ _⟩
    case round =>
      clear hO0
      obtain ⟨k, hk, rfl, hO0, hN⟩ := hrel
      by_cases hlt : k < n
      · obtain ⟨ga, cap, r1, r2, r3⟩ := HD.out k hlt
        have i1 : (k : Int) < (n : Int) := by omega
        have hc1 := Lib.hid ((HC.out k hlt).trans r1)
        have hcb := Lib.hid (fun q => ccR_bd m LL k _ _ (hbn.out k) q)
        have hbk := Lib.hid (fun q (hq : q < n) => hbd.out k q hlt hq)
        have hst := Lib.hid (fun q z h => ccR_step m LL k (ccT m LL n k) q z h)
        have hcl := Lib.hid (fun q => (ccR_len m LL k (ccT m LL n k) q).trans (ccT_len m LL n k))
        have hnx := Lib.hid (show ccR m LL k (ccT m LL n k) n = ccT m LL n (k + 1) from rfl)
        have hI := Lib.hid r3
        clear r1 r3
        obtain ⟨c0, hc0⟩ : ∃ c, ccT m LL n k = c := ⟨_, rfl⟩
        rw [hc0] at hO0 hst hcl hnx hcb
        clear hc0
        go_wp2
        go_loopw [7] (fun j wr => ∃ q : Nat, q ≤ n ∧ j = .int .i64 q ∧ Own wr G (icells (ccR m LL k c0 q)) 2 ∧ Only G W wr) (fun j _ => ((n : Int) - intOf j).toNat)
        case atStart => exact ⟨0, by omega, rfl, hO0, hN⟩
        case round =>
          clear hO0 hN
          obtain ⟨q, hq, rfl, hO0, hN⟩ := hrel
          by_cases hlt2 : q < n
          · have i2 : (q : Int) < (n : Int) := by omega
            have c1 : wr.cell? ⟨gt, k, none⟩ = some (.slice (some ⟨ga, 0, none⟩) n cap) := by rw [cell_only hN hgG]; exact hc1.out
            have c2 := (hI.out.only hN r2).cell q (by rw [rwN_len]; exact hlt2)
            rw [rwN_get _ _ _ _ _ hlt2] at c2
            obtain ⟨b1, b2⟩ := hbk.out q hlt2
            have hs1 := hst.out q
            have hcl1 := hcl.out q
            have hcb1 := hcb.out q
            obtain ⟨x, hx⟩ : ∃ x, tbN m LL k q = x := ⟨_, rfl⟩
            rw [hx] at c2 b1 b2 hs1
            obtain ⟨z, rfl⟩ : ∃ z, x = z + 1 := ⟨x - 1, by omega⟩
            have hs1 := hs1 z rfl
            have cz := hO0.cell z
            rw [icells_get _ _ (by omega)] at cz
            have hyb := hcb1 z
            obtain ⟨y, hy⟩ : ∃ y, (ccR m LL k c0 q).getD z 0 = y := ⟨_, rfl⟩
            rw [hy] at cz hyb hs1
            obtain ⟨y0, y1⟩ := hyb
            have fz := hO0.free z
            have K0 := hO0.set z (.int .i64 (y + 1))
            rw [icells_set, ← hs1] at K0
            have K1 := Lib.hid K0
            have K2 := Lib.hid (hN.trans (Only.set G z _ (.int .i64 (y + 1))))
            have hzz : ((z + 1 : Nat) : Int) - 1 = (z : Int) := by omega
            have hzm : (z : Int) < (m : Int) := by omega
            have yb : y ≤ 100000 := by omega
            rw [show ((z + 1 : Nat) : Int) = (z : Int) + 1 by omega] at c2 hzz
            clear K0 hO0 hN hs1 hcl1 hcb1 hy hx b1 y1
            go_wp2
            go_roundw
            case rel => exact ⟨q + 1, by omega, by go_num, K1.out, K2.out⟩
            case measure => simp [intOf]; omega
          · have e : q = n := by omega
            subst e
            rw [hnx.out] at hO0
            go_wp2
            go_roundw
            case rel => exact ⟨k + 1, by omega, by go_num, hO0, hN⟩
            case measure => simp [intOf]; omega
      · have e : k = n := by omega
        subst e
        go_wp2
        go_ret2
        exact ⟨some ⟨G, 0, none⟩, m, by rw [ccT_len]; rfl, Mn.new HW.out hO0, HB.out.trans (hN.below.mono HW.out)⟩
  · -- B
    have b0 : Below w.heap.size w (w.alloc (.cells (icells (List.replicate m 0)) 2)).drew := ((Below.refl _ w).alloc (Nat.le_refl _) _).drew
    have hO0' : Own (w.alloc (.cells (icells (List.replicate m 0)) 2)).drew w.heap.size (icells (ccT m LL n 0)) 2 := Own.new w _ _
    have hO0 := hO0'.below hB2 hO0'.lt
    have hz : (w.alloc (.cells (icells (List.replicate m 0)) 2)).drew.heap.size = w.heap.size + 1 := by show (w.alloc _).heap.size = _; simp
    have hB : Below w.heap.size w w2 := b0.trans (hB2.mono b0.size)
    rw [hz] at hg1 hRT
    have hRD : RwD w2 w.heap.size w.heap.size m LL n vs := fun i hi => by
      obtain ⟨ga, cap, q1, q2⟩ := hRT i hi
      exact ⟨ga, cap, q1, by have := q2.1; omega, q2.rebase (by omega)⟩
    have hgG : gt ≠ w.heap.size := by omega
    have hGw : w.heap.size ≤ w.heap.size := Nat.le_refl _
    have hcW := hc
    clear hc hRT hB2 hg1 b0 hmk hO0' hz
    obtain ⟨W, rfl⟩ : ∃ x, x = w2 := ⟨_, rfl⟩
    obtain ⟨G, hG⟩ : ∃ G, w.heap.size = G := ⟨_, rfl⟩
    rw [hG] at hO0 hgG ⊢
    rw [show RwD W w.heap.size w.heap.size m LL n vs = RwD W w.heap.size G m LL n vs by rw [← hG]] at hRD
    replace hGw : w.heap.size ≤ G := by omega
    have HD := Lib.hid hRD
    have HC := Lib.hid hcW
    have HB := Lib.hid hB
    have HG := Lib.hid hG
    have HW := Lib.hid hGw
    clear hRD hcW hB hG hGw
    go_wp2
    go_loopw [6] (fun i wr => ∃ k : Nat, k ≤ n ∧ i = .int .i64 k ∧ Own wr G (icells (ccT m LL n k)) 2 ∧ Only G W wr) (fun i _ => ((n : Int) - intOf i).toNat)
    case atStart => exact ⟨0, by omega, rfl, hO0, Only.refl _ _⟩
    case round =>
      clear hO0
      obtain ⟨k, hk, rfl, hO0, hN⟩ := hrel
      by_cases hlt : k < n
      · obtain ⟨ga, cap, r1, r2, r3⟩ := HD.out k hlt
        have i1 : (k : Int) < (n : Int) := by omega
        have hc1 := Lib.hid ((HC.out k hlt).trans r1)
        have hcb := Lib.hid (fun q => ccR_bd m LL k _ _ (hbn.out k) q)
        have hbk := Lib.hid (fun q (hq : q < n) => hbd.out k q hlt hq)
        have hst := Lib.hid (fun q z h => ccR_step m LL k (ccT m LL n k) q z h)
        have hcl := Lib.hid (fun q => (ccR_len m LL k (ccT m LL n k) q).trans (ccT_len m LL n k))
        have hnx := Lib.hid (show ccR m LL k (ccT m LL n k) n = ccT m LL n (k + 1) from rfl)
        have hI := Lib.hid r3
        clear r1 r3
        obtain ⟨c0, hc0⟩ : ∃ c, ccT m LL n k = c := ⟨_, rfl⟩
        rw [hc0] at hO0 hst hcl hnx hcb
        clear hc0
        go_wp2
        go_loopw [7] (fun j wr => ∃ q : Nat, q ≤ n ∧ j = .int .i64 q ∧ Own wr G (icells (ccR m LL k c0 q)) 2 ∧ Only G W wr) (fun j _ => ((n : Int) - intOf j).toNat)
        case atStart => exact ⟨0, by omega, rfl, hO0, hN⟩
        case round =>
          clear hO0 hN
          obtain ⟨q, hq, rfl, hO0, hN⟩ := hrel
          by_cases hlt2 : q < n
          · have i2 : (q : Int) < (n : Int) := by omega
            have c1 : wr.cell? ⟨gt, k, none⟩ = some (.slice (some ⟨ga, 0, none⟩) n cap) := by rw [cell_only hN hgG]; exact hc1.out
            have c2 := (hI.out.only hN r2).cell q (by rw [rwN_len]; exact hlt2)
            rw [rwN_get _ _ _ _ _ hlt2] at c2
            obtain ⟨b1, b2⟩ := hbk.out q hlt2
            have hs1 := hst.out q
            have hcl1 := hcl.out q
            have hcb1 := hcb.out q
            obtain ⟨x, hx⟩ : ∃ x, tbN m LL k q = x := ⟨_, rfl⟩
            rw [hx] at c2 b1 b2 hs1
            obtain ⟨z, rfl⟩ : ∃ z, x = z + 1 := ⟨x - 1, by omega⟩
            have hs1 := hs1 z rfl
            have cz := hO0.cell z
            rw [icells_get _ _ (by omega)] at cz
            have hyb := hcb1 z
            obtain ⟨y, hy⟩ : ∃ y, (ccR m LL k c0 q).getD z 0 = y := ⟨_, rfl⟩
            rw [hy] at cz hyb hs1
            obtain ⟨y0, y1⟩ := hyb
            have fz := hO0.free z
            have K0 := hO0.set z (.int .i64 (y + 1))
            rw [icells_set, ← hs1] at K0
            have K1 := Lib.hid K0
            have K2 := Lib.hid (hN.trans (Only.set G z _ (.int .i64 (y + 1))))
            have hzz : ((z + 1 : Nat) : Int) - 1 = (z : Int) := by omega
            have hzm : (z : Int) < (m : Int) := by omega
            have yb : y ≤ 100000 := by omega
            rw [show ((z + 1 : Nat) : Int) = (z : Int) + 1 by omega] at c2 hzz
            clear K0 hO0 hN hs1 hcl1 hcb1 hy hx b1 y1
            go_wp2
            go_roundw
            case rel => exact ⟨q + 1, by omega, by go_num, K1.out, K2.out⟩
            case measure => simp [intOf]; omega
          · have e : q = n := by omega
            subst e
            rw [hnx.out] at hO0
            go_wp2
            go_roundw
            case rel => exact ⟨k + 1, by omega, by go_num, hO0, hN⟩
            case measure => simp [intOf]; omega
      · have e : k = n := by omega
        subst e
        go_wp2
        go_ret2
        exact ⟨some ⟨G, 0, none⟩, m, by rw [ccT_len]; rfl, Mn.new HW.out hO0, HB.out.trans (hN.below.mono HW.out)⟩
set_option maxRecDepth 100000 in
set_option maxHeartbeats 4000000 in
theorem cb_walk (m : Int) (w : World) (xs : List Int) (hlx : xs.length ≤ 100000) (cd : Int)
    (hS : ∀ w, Calls Try.prog 24 #[.int .i64 m] w (ResI xs cd w))
    (hI : ∀ w, Calls Try.prog 25 #[.int .i64 m] w (ResI xs cd w)) :
    Calls Try.prog 6 #[.int .i64 m] w fun e w' => e = .returned (.bool true) ∧ Below w.heap.size w w' := by
  obtain ⟨l1, hm1⟩ : ∃ m, xs.length = m := ⟨_, rfl⟩
  have he1 := Lib.hid (fun p q cap cap' w hR hQ => eqI_same p q cap cap' xs (by omega) w hR hQ)
  have hk1 := Lib.hid (fun B p cap w hM hB => mark_all B p cap xs (by omega) 1 (by omega) (by omega) w hM hB)
  have hh1 := Lib.hid (fun p cap w hR => held_any p cap l1 (by omega) 1 (by omega) (by omega) w hR)
  have hrs : ∀ w e w', ResI xs cd w e w' → ∃ (p : Option Addr) (cap : Nat), e = .returned (.tuple #[.slice p l1 cap, .int .i64 cd]) ∧ Mn w' w.heap.size p xs ∧ Below w.heap.size w w' := fun w e w' h => by
    obtain ⟨p, cap, h1, h2⟩ := h
    rw [hm1] at h1
    exact ⟨p, cap, h1, h2⟩
  have hS' := Lib.hid (fun w => (hS w).mono (fun e w' h => hrs w e w' h))
  have hI' := Lib.hid (fun w => (hI w).mono (fun e w' h => hrs w e w' h))
  have ll1 : l1 ≤ 100000 := by omega
  rw [hm1] at he1 hk1
  clear hS hI hm1 hlx hrs
  go_enter Try.func6, Try.ntmps6
  go_wp2_with (first
    | (go_at_call 28; ((with_reducible refine (hh1.out _ _ w7 ((hp1b.below hB6 (Nat.le_refl _)).below hB7 (Nat.le_refl _)).rd).mono ?_); rintro e w8 ⟨rfl, rfl⟩))
    | (go_at_call 26; ((with_reducible refine (he1.out _ _ _ _ w6 hr1.rd (hq1b.below hB6 (Nat.le_refl _)).rd).mono ?_); rintro e w7 ⟨rfl, hB7⟩))
    | (go_at_call 25; ((with_reducible refine (hI'.out w5).mono ?_); rintro e w6 ⟨r1, rc1, rfl, hr1, hB6⟩))
    | (go_at_call 28; ((with_reducible refine (hh1.out _ _ w4 hp1b.rd).mono ?_); rintro e w5 ⟨rfl, rfl⟩))
    | (go_at_call 27; ((with_reducible refine (hk1.out w1.heap.size _ _ w3 (hp1.below hB3 (Nat.le_refl _)) (Nat.le_trans hB2.size hB3.size)).mono ?_); rintro e w4 ⟨rfl, hp1b, hB4, hX4⟩; have bq : Below w1.heap.size w1 w4 := ((hB2.trans (hB3.mono hB2.size)).trans hB4); have hq1b := hq1.below bq (Nat.le_refl _)))
    | (go_at_call 26; ((with_reducible refine (he1.out _ _ _ _ w2 hp1.rd (hq1.below hB2 (Nat.le_refl _)).rd).mono ?_); rintro e w3 ⟨rfl, hB3⟩))
    | (go_at_call 25; ((with_reducible refine (hI'.out w1).mono ?_); rintro e w2 ⟨p1, pc1, rfl, hp1, hB2⟩))
    | (go_at_call 24; ((with_reducible refine (hS'.out w).mono ?_); rintro e w1 ⟨q1, qc1, rfl, hq1, hB1⟩)))
  go_ret
  have b1 := hB1.trans (bq.mono hB1.size)
  have b2 := b1.trans (hB6.mono b1.size)
  exact ⟨rfl, b2.trans (hB7.mono b2.size)⟩
theorem allH_pos (m : Nat) (h1 : 1 ≤ m) (h6 : m ≤ 6) : 1 ≤ (allH (2 * m) 0).length := by
  have h : m = 1 ∨ m = 2 ∨ m = 3 ∨ m = 4 ∨ m = 5 ∨ m = 6 := by omega
  rcases h with rfl | rfl | rfl | rfl | rfl | rfl <;> decide +kernel
theorem cb_law (m : Int) (w : World) :
    Calls Try.prog 6 #[.int .i64 m] w fun e w' => e = .returned (.bool true) ∧ Below w.heap.size w w' := by
  by_cases h : 1 ≤ m ∧ m ≤ 5
  · obtain ⟨M, rfl⟩ : ∃ M : Nat, m = M := ⟨m.toNat, by omega⟩
    have h0 := allH_pos M (by omega) (by omega)
    exact cb_walk _ w (ccT M (allH (2 * M) 0) _ _) (by rw [ccT_len]; omega) 0 (fun w => cbS_ok M (by omega) (by omega) _ rfl h0 w) (fun w => cbI_ok M (by omega) (by omega) _ rfl h0 w)
  · exact cb_walk _ w [] (by simp) 2 (fun w => cbS_bad m (by omega) w) (fun w => cbI_bad m (by omega) w)
end Go.Proofs.Ythofkmndgedkgaa
