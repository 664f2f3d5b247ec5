/- MirrorWord: program, model and law. -/
import Derived.Test.YtfhplhnaijhjlaaBrd
import Derived.Test.YtfhplhnaijhjlaaMark
import Derived.Test.YtfhplhnaijhjlaaIntsAt
namespace Go.Proofs.Ytfhplhnaijhjlaa
open Go.RowKit
set_option linter.unusedVariables false
def negL (xs : List Int) : List Int := xs.map (fun x => -x)
theorem negL_len (xs : List Int) : (negL xs).length = xs.length := by simp [negL]
theorem negL_get (xs : List Int) (k : Nat) (h : k < xs.length) : (negL xs).getD k 0 = -(xs.getD k 0) := by simp [negL, h]
theorem negL_step (xs : List Int) (k : Nat) (h : k < xs.length) : negL (xs.take (k + 1)) = negL (xs.take k) ++ [-(xs.getD k 0)] := by
  unfold negL
  rw [List.take_succ_eq_append_getElem h, List.map_append, List.getD_eq_getElem?_getD, List.getElem?_eq_getElem h]; rfl
set_option maxRecDepth 100000 in
theorem mirwI_bad (n : Int) (p : Option Addr) (cap : Nat) (xs : List Int) (w : World) (hx : xs.length ≤ 1048576) (hR : Rd w p xs) (h : brdB n xs = false) :
    Calls Try.prog 23 #[.int .i64 n, .slice p xs.length cap] w (ResI [] 2 w) := by
  have hR' := Lib.hid hR
  have hc := Lib.hid (fun w hR => isBraidI_any n p cap xs w hx hR)
  rw [h] at hc
  clear h
  clear hR
  go_enter Try.func23, Try.ntmps23
  go_wp2_with (first
    | (go_at_call 34; ((with_reducible refine (hc.out _ hR'.out).mono ?_); rintro e w1 ⟨rfl, rfl⟩)))
  go_ret2
  exact ⟨none, 0, rfl, Mn.nil _ _, Below.refl _ _⟩
set_option maxRecDepth 100000 in
theorem mirwS_bad (n : Int) (p : Option Addr) (cap : Nat) (xs : List Int) (w : World) (hx : xs.length ≤ 1048576) (hR : Rd w p xs) (h : brdB n xs = false) :
    Calls Try.prog 22 #[.int .i64 n, .slice p xs.length cap] w (ResI [] 2 w) := by
  have hR' := Lib.hid hR
  have hc := Lib.hid (fun w hR => isBraidS_any n p cap xs w hx hR)
  rw [h] at hc
  clear h
  clear hR
  go_enter Try.func22, Try.ntmps22
  go_wp2_with (first
    | (go_at_call 32; ((with_reducible refine (hc.out _ hR'.out).mono ?_); rintro e w1 ⟨rfl, rfl⟩)))
  go_ret2
  exact ⟨none, 0, rfl, Mn.nil _ _, Below.refl _ _⟩
set_option maxRecDepth 100000 in
set_option maxHeartbeats 1000000 in
theorem mirwI_ok (n : Int) (p : Option Addr) (cap : Nat) (xs : List Int) (w : World) (hR : Rd w p xs) (h : brdB n xs = true) :
    Calls Try.prog 23 #[.int .i64 n, .slice p xs.length cap] w (ResI (negL xs) 0 w) := by
  obtain ⟨⟨n2, n6, h24⟩, hall⟩ := brdB_t h
  have hbd := Lib.hid (fun k (hk : k < xs.length) => show -10 ≤ xs.getD k 0 ∧ xs.getD k 0 ≤ 10 by
    have := hall (xs.getD k 0) (by rw [List.getD_eq_getElem?_getD, List.getElem?_eq_getElem hk]; exact List.getElem_mem hk)
    omega)
  obtain ⟨m, hm⟩ : ∃ m, xs.length = m := ⟨_, rfl⟩
  have hN := Lib.hid hm
  have hc := Lib.hid (fun w hR => isBraidI_any n p cap xs w (by omega) hR)
  rw [h] at hc
  have hR' := Lib.hid hR
  have hmk := makeI xs.length (by omega)
  have hz := Lib.hid (show icells (List.replicate xs.length 0) = icells (cpI (negL xs) 0) by simp [cpI, negL_len])
  have hl0 := Lib.hid (negL_len xs)
  have hget := Lib.hid (negL_get xs)
  rw [hm] at hmk hz hc h24 ⊢
  clear hR h hall hm
  go_enter Try.func23, Try.ntmps23
  go_wp2_with (first
    | (go_at_call 34; ((with_reducible refine (hc.out _ hR'.out).mono ?_); rintro e w1 ⟨rfl, rfl⟩)))
  clear hmk
  go_loopw [18] (fun i wr => ∃ k : Nat, k ≤ m ∧ i = .int .i64 k ∧ Own wr w1.heap.size (icells (cpI (negL xs) k)) 2 ∧ Below w1.heap.size w1 wr) (fun i _ => ((m : Int) - intOf i).toNat)
  case atStart => exact ⟨0, by omega, rfl, by rw [← hz.out]; exact Own.new _ _ _, (Below.refl _ _).alloc (Nat.le_refl _) _⟩
  case round =>
    obtain ⟨k, hk, rfl, hO, hB⟩ := hrel
    by_cases hlt : k < m
    · have hks : k < xs.length := by rw [hN.out]; exact hlt
      obtain ⟨a, rfl⟩ := rd_some hR'.out hks
      have hl := Lib.hid (cpI_len (negL xs) k (by rw [hl0.out]; omega))
      have c1 := (hR'.out.below hB).cell a rfl k hks
      have c2 := hO.cell k
      rw [icells_get _ _ (by rw [hl.out, hl0.out]; exact hks)] at c2
      have f2 := hO.free k
      have hO2 := hO.set k (.int .i64 ((negL xs).getD k 0))
      rw [icells_set, cpI_set _ _ (by rw [hl0.out]; exact hks)] at hO2
      have hB2 := hB.setCell (p := ⟨w1.heap.size, k, none⟩) (by simp) (.int .i64 ((negL xs).getD k 0))
      have hb := hbd.out k hks
      rw [hget.out k hks] at hO2 hB2
      generalize xs.getD k 0 = x at *
      have K1 := Lib.hid hO2
      clear hO2
      go_wp2
      go_roundw
      case rel => exact ⟨k + 1, by omega, by go_num, K1.out, hB2⟩
      case measure => simp [intOf]; omega
    · have hk2 : k = m := by omega
      subst hk2
      have hE := Lib.hid (show Own wr w1.heap.size (icells (negL xs)) 2 by rw [← cpI_end (negL xs), hl0.out, hN.out]; exact hO)
      go_wp2
      go_ret2
      exact ⟨_, _, by rw [hl0.out, hN.out]; rfl, Mn.new (Nat.le_refl _) hE.out, hB⟩
set_option maxRecDepth 100000 in
set_option maxHeartbeats 1000000 in
theorem mirwS_ok (n : Int) (p : Option Addr) (cap : Nat) (xs : List Int) (w : World) (hR : Rd w p xs) (h : brdB n xs = true) :
    Calls Try.prog 22 #[.int .i64 n, .slice p xs.length cap] w (ResI (negL xs) 0 w) := by
  obtain ⟨⟨n2, n6, h24⟩, hall⟩ := brdB_t h
  have hbd := Lib.hid (fun k (hk : k < xs.length) => show -10 ≤ xs.getD k 0 ∧ xs.getD k 0 ≤ 10 by
    have := hall (xs.getD k 0) (by rw [List.getD_eq_getElem?_getD, List.getElem?_eq_getElem hk]; exact List.getElem_mem hk)
    omega)
  obtain ⟨m, hm⟩ : ∃ m, xs.length = m := ⟨_, rfl⟩
  have hN := Lib.hid hm
  have hc := Lib.hid (fun w hR => isBraidS_any n p cap xs w (by omega) hR)
  rw [h] at hc
  have hR' := Lib.hid hR
  have hst := Lib.hid (negL_step xs)
  have hend := Lib.hid (show negL (xs.take m) = negL xs by rw [List.take_of_length_le (by omega)])
  have hln := Lib.hid (fun k => show (negL (xs.take k)).length ≤ 24 by rw [negL_len, List.length_take]; omega)
  rw [hm] at hc h24
  clear hR h hall
  rw [hm]
  clear hm
  go_enter Try.func22, Try.ntmps22
  go_wp2_with (first
    | (go_at_call 32; ((with_reducible refine (hc.out _ hR'.out).mono ?_); rintro e w1 ⟨rfl, rfl⟩)))
  have hI0 := Lib.hid (Ints.new w1 w1.heap.size w1.heap.size 0 (Nat.le_refl _) rfl (by unfold maxLen; omega) #[] rfl)
  have hB0 := Lib.hid ((Below.refl w1.heap.size w1).alloc (Nat.le_refl _) (.cells #[] 2))
  go_loopw [6, 7] (fun v i wr => ∃ (k g cap : Nat), k ≤ m ∧ i = .int .i64 k ∧ v = .slice (some ⟨g, 0, none⟩) (negL (xs.take k)).length cap ∧ Ints wr w1.heap.size g cap (negL (xs.take k)) ∧ Below w1.heap.size w1 wr) (fun _ i _ => ((m : Int) - intOf i).toNat)
  case atStart => exact ⟨0, _, 0, by omega, rfl, rfl, by simpa [negL] using hI0.out, hB0.out⟩
  case round =>
    clear hI0 hB0
    obtain ⟨k, g, cap, hk, rfl, rfl, hI, hB⟩ := hrel
    by_cases hlt : k < m
    · have hks : k < xs.length := by rw [hN.out]; exact hlt
      obtain ⟨a, rfl⟩ := rd_some hR'.out hks
      have c1 := (hR'.out.below hB).cell a rfl k hks
      have hb := hbd.out k hks
      have hs1 := Lib.hid (hst.out k hks)
      have hlen := hln.out k
      generalize xs.getD k 0 = x at *
      have i1 : (k : Int) < (m : Int) := by omega
      have hsz := hB.size
      have hal := hB.alloc hB.size (.cells #[.int .i64 (-x)] 2)
      clear hks
      go_wp2_with (refine wpList_append_ints rfl (.tmp 19) (.tmp 25) rfl w1.heap.size g cap (negL (xs.take k)) (-x) rfl (hI.alloc _) ⟨wr.heap.size, 0, none⟩ 1 rfl ((Own.new _ _ _).cell 0) (by omega) (by simp; omega) ?_; intro g2 cap2 w8 hI2 hG2; rw [← hs1.out] at hI2 ⊢; unfold ival)
      have hB8 := hal.grown hG2 (by simp; omega) (fun b e => by have := hI.1; simp at e; omega)
      go_roundw
      case rel => exact ⟨k + 1, g2, cap2, by omega, by go_num, rfl, hI2, hB8⟩
      case measure => simp [intOf]; omega
    · obtain rfl : k = m := by omega
      go_wp2
      go_ret2
      exact ⟨_, _, by rw [hend.out]; rfl, Mn.ints (Nat.le_refl _) (by rw [← hend.out]; exact hI), hB⟩
set_option maxRecDepth 100000 in
set_option maxHeartbeats 4000000 in
theorem mirw_walk (n : Int) (p : Option Addr) (cap : Nat) (xs : List Int) (w : World) (hx : xs.length ≤ 1048576) (hR : Rd w p xs) (rs : List Int) (hlr : rs.length ≤ 1048576) (cd : Int)
    (hS : ∀ w (q : Addr), Rd w (some q) xs → Calls Try.prog 22 #[.int .i64 n, .slice (some q) xs.length xs.length] w (ResI rs cd w))
    (hI : ∀ w (q : Addr), Rd w (some q) xs → Calls Try.prog 23 #[.int .i64 n, .slice (some q) xs.length xs.length] w (ResI rs cd w)) :
    Calls Try.prog 7 #[.int .i64 n, .slice p xs.length cap] w fun e w' => e = .returned (.bool true) ∧ Below w.heap.size w w' := by
  obtain ⟨l1, hm1⟩ : ∃ m, rs.length = m := ⟨_, rfl⟩
  obtain ⟨l0, hm0⟩ : ∃ m, xs.length = m := ⟨_, rfl⟩
  have he1 := Lib.hid (fun p q cap cap' w hR hQ => eqI_same p q cap cap' rs (by omega) w hR hQ)
  have he0 := Lib.hid (fun p q cap cap' w hR hQ => eqI_same p q cap cap' xs (by omega) w hR hQ)
  have hk1 := Lib.hid (fun B p cap w hM hB => mark_all B p cap rs (by omega) 1 (by omega) (by omega) w hM hB)
  have hk0 := Lib.hid (fun B p cap w hM hB => mark_all B p cap xs (by omega) 1 (by omega) (by omega) w hM hB)
  have hh1 := Lib.hid (fun p cap w hR => held_any p cap l1 (by omega) 1 (by omega) (by omega) w hR)
  have hc := Lib.hid (fun w hR => toI_any p cap xs hx w hR)
  have hrs : ∀ w e w', ResI rs cd w e w' → ∃ (p : Option Addr) (cap : Nat), e = .returned (.tuple #[.slice p l1 cap, .int .i64 cd]) ∧ Mn w' w.heap.size p rs ∧ Below w.heap.size w w' := fun w e w' h => by
    obtain ⟨p, cap, h1, h2⟩ := h
    rw [hm1] at h1
    exact ⟨p, cap, h1, h2⟩
  have hS' := Lib.hid (fun w q hR => (hS w q hR).mono (fun e w' h => hrs w e w' h))
  have hI' := Lib.hid (fun w q hR => (hI w q hR).mono (fun e w' h => hrs w e w' h))
  have hR' := Lib.hid hR
  have ll1 : l1 ≤ 1048576 := by omega
  have ll0 : l0 ≤ 1048576 := by omega
  have hx' : ¬ (1048576 : Int) < (l0 : Int) := by omega
  rw [hm1] at he1 hk1
  rw [hm0] at he0 hk0 hc hS' hI' ⊢
  clear hS hI hm1 hm0 hlr hrs hR hx
  go_enter Try.func7, Try.ntmps7
  go_wp2_with (first
    | (go_at_call 19; ((with_reducible refine (hh1.out _ _ w13 (((hp10.below hB11 (Nat.le_refl _)).below hB12 (Nat.le_refl _)).below hB13 (Nat.le_refl _)).rd).mono ?_); rintro e w14 ⟨rfl, rfl⟩))
    | (go_at_call 15; ((with_reducible refine (he1.out _ _ _ _ w12 hr1.rd (hq1.below c12 (Nat.le_refl _)).rd).mono ?_); rintro e w13 ⟨rfl, hB13⟩; have b13 := b12.trans (hB13.mono b12.size)))
    | (go_at_call 23; ((with_reducible refine (hI'.out w11 _ (Rd.own hO11)).mono ?_); rintro e w12 ⟨r1, rc1, rfl, hr1, hB12⟩; have b12 := b11.trans (hB12.mono b11.size); have c12 := c11.trans (hB12.mono c11.size)))
    | (go_at_call 13; ((with_reducible refine (hc.out w10 (hR'.out.below b10)).mono ?_); rintro e w11 ⟨rfl, hO11, hB11⟩; have b11 := b10.trans (hB11.mono b10.size); have c11 := c10.trans (hB11.mono c10.size)))
    | (go_at_call 19; ((with_reducible refine (hh1.out _ _ w10x hp10'.rd).mono ?_); rintro e w10 ⟨rfl, rfl⟩; have hp10 := hp10'))
    | (go_at_call 18; ((with_reducible refine (hk1.out w3.heap.size _ _ w9 (hp8.below hB9 (Nat.le_refl _)) s39).mono ?_); rintro e w10x ⟨rfl, hp10', hB10, hX10⟩; have b10 := b9.trans (hB10.mono b3.size); have c10 := c9.trans (hB10.mono c3.size)))
    | (go_at_call 15; ((with_reducible refine (he1.out _ _ _ _ w8 hp8.rd (hq1.below c8 (Nat.le_refl _)).rd).mono ?_); rintro e w9 ⟨rfl, hB9⟩; have b9 := b8.trans (hB9.mono b8.size); have c9 := c8.trans (hB9.mono c8.size); have s39 := Nat.le_trans s38 hB9.size))
    | (go_at_call 18; ((with_reducible refine (hk0.out w2.heap.size _ _ w7 hx7 s27).mono ?_); rintro e w8 ⟨rfl, hx8, hB8, hX8⟩; have b8 := b7.trans (hB8.mono b2.size); have c8 := c7.trans hB8; have hp8 := (hX8 p1 rs (hp7.weak (Nat.le_of_lt s23)) (fun a e => hp7.ne s23 e)).base hp7; have s38 := Nat.le_trans s37 hB8.size))
    | (go_at_call 15; ((with_reducible refine (he0.out _ _ _ _ w6 (Rd.own hO36) (Rd.own hO6)).mono ?_); rintro e w7 ⟨rfl, hB7⟩; have b7 := b6.trans (hB7.mono b6.size); have c7 := c6.trans (hB7.mono c6.size); have hp7 := hp6.below hB7 (Nat.le_refl _); have hx7 := Mn.new (Nat.le_refl _) (hO36.below hB7 hO36.lt); have s27 := c7.size; have s37 := Nat.le_trans s36 hB7.size))
    | (go_at_call 13; ((with_reducible refine (hc.out w5 (hR'.out.below b5)).mono ?_); rintro e w6 ⟨rfl, hO6, hB6⟩; have b6 := b5.trans (hB6.mono b5.size); have c6 := c5.trans (hB6.mono c5.size); have hO36 := hO35.below hB6 hO35.lt; have hp6 := hp5.below hB6 (Nat.le_refl _); have s36 := Nat.le_trans s35 hB6.size))
    | (go_at_call 15; ((with_reducible refine (he1.out _ _ _ _ w4 hp1.rd (hq1.below c4 (Nat.le_refl _)).rd).mono ?_); rintro e w5 ⟨rfl, hB5⟩; have b5 := b4.trans (hB5.mono b4.size); have c5 := c4.trans (hB5.mono c4.size); have hO35 := hO34.below hB5 hO34.lt; have hp5 := hp1.below hB5 (Nat.le_refl _); have s35 := Nat.le_trans hB4.size hB5.size))
    | (go_at_call 23; ((with_reducible refine (hI'.out w3 _ (Rd.own hO3)).mono ?_); rintro e w4 ⟨p1, pc1, rfl, hp1, hB4⟩; have b4 := b3.trans (hB4.mono b3.size); have c4 := c3.trans (hB4.mono c3.size); have hO34 := hO3.below hB4 hO3.lt))
    | (go_at_call 13; ((with_reducible refine (hc.out w2 (hR'.out.below b2)).mono ?_); rintro e w3 ⟨rfl, hO3, hB3⟩; have b3 := b2.trans (hB3.mono b2.size); have c3 := hB3; have s23 := hO3.lt))
    | (go_at_call 22; ((with_reducible refine (hS'.out w1 _ (Rd.own hO1)).mono ?_); rintro e w2 ⟨q1, qc1, rfl, hq1, hB2⟩; have b2 := hB1.trans (hB2.mono hB1.size)))
    | (go_at_call 13; ((with_reducible refine (hc.out w hR'.out).mono ?_); rintro e w1 ⟨rfl, hO1, hB1⟩)))
  go_ret
  exact ⟨rfl, b13⟩
theorem mirw_big (n : Int) (p : Option Addr) (cap : Nat) (len : Nat) (w : World) (hm : len ≤ maxLen) (h : 1048576 < len) : Calls Try.prog 7 #[.int .i64 n, .slice p len cap] w fun e w' => e = .returned (.bool true) ∧ Below w.heap.size w w' := by
  unfold maxLen at hm
  have h' : (1048576 : Int) < (len : Int) := by omega
  go_enter Try.func7, Try.ntmps7
  go_wp2
  go_ret
  exact ⟨rfl, Below.refl _ _⟩
theorem mirw_law (n : Int) (p : Option Addr) (cap : Nat) (xs : List Int) (w : World) (hm : xs.length ≤ maxLen) (hR : Rd w p xs) :
    Calls Try.prog 7 #[.int .i64 n, .slice p xs.length cap] w fun e w' => e = .returned (.bool true) ∧ Below w.heap.size w w' := by
  by_cases h : xs.length ≤ 1048576
  · cases hb : brdB n xs with
    | false => exact mirw_walk n p cap xs w h hR [] (by simp) 2 (fun w q hR => mirwS_bad n _ _ xs w h hR hb) (fun w q hR => mirwI_bad n _ _ xs w h hR hb)
    | true => exact mirw_walk n p cap xs w h hR (negL xs) (by rw [negL_len]; exact h) 0 (fun w q hR => mirwS_ok n _ _ xs w hR hb) (fun w q hR => mirwI_ok n _ _ xs w hR hb)
  · exact mirw_big n p cap xs.length w hm (by omega)
end Go.Proofs.Ytfhplhnaijhjlaa
