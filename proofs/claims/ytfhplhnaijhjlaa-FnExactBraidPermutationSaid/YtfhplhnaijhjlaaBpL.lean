/- BraidPermutation: the law. -/
import Derived.Test.YtfhplhnaijhjlaaBpS
namespace Go.Proofs.Ytfhplhnaijhjlaa
open Go.RowKit
set_option linter.unusedVariables false
set_option maxRecDepth 100000 in
theorem bpmI_bad (n : Int) (p : Option Addr) (cap : Nat) (xs : List Int) (w : World) (hx : xs.length ≤ 1048576) (hR : Rd w p xs) (h : brdB n xs = false) :
    Calls Try.prog 17 #[.int .i64 n, .slice p xs.length cap] w (ResI [] 2 w) := by
  have hR' := Lib.hid hR
  have hc := Lib.hid (fun w hR => isBraidI_any n p cap xs w hx hR)
  rw [h] at hc
  clear h
  clear hR
  go_enter Try.func17, Try.ntmps17
  go_wp2_with (first
    | (go_at_call 34; ((with_reducible refine (hc.out _ hR'.out).mono ?_); rintro e w1 ⟨rfl, rfl⟩)))
  go_ret2
  exact ⟨none, 0, rfl, Mn.nil _ _, Below.refl _ _⟩
set_option maxRecDepth 100000 in
theorem bpmI_ok (n : Int) (p : Option Addr) (cap : Nat) (xs : List Int) (w : World) (hR : Rd w p xs) (h : brdB n xs = true) :
    Calls Try.prog 17 #[.int .i64 n, .slice p xs.length cap] w (ResI (bprm n xs) 0 w) := by
  have hx := (brdB_t h).1.2.2
  have hc := Lib.hid (fun w hR => isBraidI_any n p cap xs w (by omega) hR)
  have he := Lib.hid (fun w hR => endsI_any n p cap xs w hR h)
  rw [h] at hc
  have hR' := Lib.hid hR
  have hl := Lib.hid (bprm_len h)
  rw [hl.out] at he
  clear hR h
  go_enter Try.func17, Try.ntmps17
  go_wp2_with (first
    | (go_at_call 34; ((with_reducible refine (hc.out _ hR'.out).mono ?_); rintro e w1 ⟨rfl, rfl⟩))
    | (go_at_call 37; ((with_reducible refine (he.out _ hR'.out).mono ?_); rintro e w2 ⟨⟨q, c2, rfl, hM⟩, hB⟩)))
  go_ret2
  exact ⟨q, c2, by rw [hl.out]; rfl, hM, hB⟩
set_option maxRecDepth 100000 in
theorem bpmS_bad (n : Int) (p : Option Addr) (cap : Nat) (xs : List Int) (w : World) (hx : xs.length ≤ 1048576) (hR : Rd w p xs) (h : brdB n xs = false) :
    Calls Try.prog 16 #[.int .i64 n, .slice p xs.length cap] w (ResI [] 2 w) := by
  have hR' := Lib.hid hR
  have hc := Lib.hid (fun w hR => isBraidS_any n p cap xs w hx hR)
  rw [h] at hc
  clear h
  clear hR
  go_enter Try.func16, Try.ntmps16
  go_wp2_with (first
    | (go_at_call 32; ((with_reducible refine (hc.out _ hR'.out).mono ?_); rintro e w1 ⟨rfl, rfl⟩)))
  go_ret2
  exact ⟨none, 0, rfl, Mn.nil _ _, Below.refl _ _⟩
set_option maxRecDepth 100000 in
theorem bpmS_ok (n : Int) (p : Option Addr) (cap : Nat) (xs : List Int) (w : World) (hR : Rd w p xs) (h : brdB n xs = true) :
    Calls Try.prog 16 #[.int .i64 n, .slice p xs.length cap] w (ResI (bprm n xs) 0 w) := by
  have hx := (brdB_t h).1.2.2
  have hc := Lib.hid (fun w hR => isBraidS_any n p cap xs w (by omega) hR)
  have he := Lib.hid (fun w hR => endsS_any' n p cap xs w hR h)
  rw [h] at hc
  have hR' := Lib.hid hR
  have hl := Lib.hid (bprm_len h)
  rw [hl.out] at he
  clear hR h
  go_enter Try.func16, Try.ntmps16
  go_wp2_with (first
    | (go_at_call 32; ((with_reducible refine (hc.out _ hR'.out).mono ?_); rintro e w1 ⟨rfl, rfl⟩))
    | (go_at_call 36; ((with_reducible refine (he.out _ hR'.out).mono ?_); rintro e w2 ⟨⟨q, c2, rfl, hM⟩, hB⟩)))
  go_ret2
  exact ⟨q, c2, by rw [hl.out]; rfl, hM, hB⟩
set_option maxRecDepth 100000 in
set_option maxHeartbeats 4000000 in
theorem bpm_walk (n : Int) (p : Option Addr) (cap : Nat) (xs : List Int) (w : World) (hx : xs.length ≤ 1048576) (hR : Rd w p xs) (rs : List Int) (hlr : rs.length ≤ 1048576) (cd : Int)
    (hS : ∀ w (q : Addr), Rd w (some q) xs → Calls Try.prog 16 #[.int .i64 n, .slice (some q) xs.length xs.length] w (ResI rs cd w))
    (hI : ∀ w (q : Addr), Rd w (some q) xs → Calls Try.prog 17 #[.int .i64 n, .slice (some q) xs.length xs.length] w (ResI rs cd w)) :
    Calls Try.prog 5 #[.int .i64 n, .slice p xs.length cap] w fun e w' => e = .returned (.bool true) ∧ Below w.heap.size w w' := by
  obtain ⟨l1, hm1⟩ : ∃ m, rs.length = m := ⟨_, rfl⟩
  obtain ⟨l0, hm0⟩ : ∃ m, xs.length = m := ⟨_, rfl⟩
  have he1 := Lib.hid (fun p q cap cap' w hR hQ => eqI_same p q cap cap' rs (by omega) w hR hQ)
  have he0 := Lib.hid (fun p q cap cap' w hR hQ => eqI_same p q cap cap' xs (by omega) w hR hQ)
  have hk1 := Lib.hid (fun B p cap w hM hB => mark_all B p cap rs (by omega) 1 (by omega) (by omega) w hM hB)
  have hk0 := Lib.hid (fun B p cap w hM hB => mark_all B p cap xs (by omega) 1 (by omega) (by omega) w hM hB)
  have hh1 := Lib.hid (fun p cap w hR => held_any p cap l1 (by omega) 1 (by omega) (by omega) w hR)
  have hc := Lib.hid (fun w hR => toI_any p cap xs hx w hR)
  have hrs : ∀ w e w', ResI rs cd w e w' → ∃ (p : Option Addr) (cap : Nat), e = .returned (.tuple #[.slice p l1 cap, .int .i64 cd]) ∧ Mn w' w.heap.size p rs ∧ Below w.heap.size w w' := fun w e w' h => by
    obtain ⟨p, cap, h1, h2⟩ := h
    rw [hm1] at h1
    exact ⟨p, cap, h1, h2⟩
  have hS' := Lib.hid (fun w q hR => (hS w q hR).mono (fun e w' h => hrs w e w' h))
  have hI' := Lib.hid (fun w q hR => (hI w q hR).mono (fun e w' h => hrs w e w' h))
  have hR' := Lib.hid hR
  have ll1 : l1 ≤ 1048576 := by omega
  have ll0 : l0 ≤ 1048576 := by omega
  have hx' : ¬ (1048576 : Int) < (l0 : Int) := by omega
  rw [hm1] at he1 hk1
  rw [hm0] at he0 hk0 hc hS' hI' ⊢
  clear hS hI hm1 hm0 hlr hrs hR hx
  go_enter Try.func5, Try.ntmps5
  go_wp2_with (first
    | (go_at_call 19; ((with_reducible refine (hh1.out _ _ w13 (((hp10.below hB11 (Nat.le_refl _)).below hB12 (Nat.le_refl _)).below hB13 (Nat.le_refl _)).rd).mono ?_); rintro e w14 ⟨rfl, rfl⟩))
    | (go_at_call 15; ((with_reducible refine (he1.out _ _ _ _ w12 hr1.rd (hq1.below c12 (Nat.le_refl _)).rd).mono ?_); rintro e w13 ⟨rfl, hB13⟩; have b13 := b12.trans (hB13.mono b12.size)))
    | (go_at_call 17; ((with_reducible refine (hI'.out w11 _ (Rd.own hO11)).mono ?_); rintro e w12 ⟨r1, rc1, rfl, hr1, hB12⟩; have b12 := b11.trans (hB12.mono b11.size); have c12 := c11.trans (hB12.mono c11.size)))
    | (go_at_call 13; ((with_reducible refine (hc.out w10 (hR'.out.below b10)).mono ?_); rintro e w11 ⟨rfl, hO11, hB11⟩; have b11 := b10.trans (hB11.mono b10.size); have c11 := c10.trans (hB11.mono c10.size)))
    | (go_at_call 19; ((with_reducible refine (hh1.out _ _ w10x hp10'.rd).mono ?_); rintro e w10 ⟨rfl, rfl⟩; have hp10 := hp10'))
    | (go_at_call 18; ((with_reducible refine (hk1.out w3.heap.size _ _ w9 (hp8.below hB9 (Nat.le_refl _)) s39).mono ?_); rintro e w10x ⟨rfl, hp10', hB10, hX10⟩; have b10 := b9.trans (hB10.mono b3.size); have c10 := c9.trans (hB10.mono c3.size)))
    | (go_at_call 15; ((with_reducible refine (he1.out _ _ _ _ w8 hp8.rd (hq1.below c8 (Nat.le_refl _)).rd).mono ?_); rintro e w9 ⟨rfl, hB9⟩; have b9 := b8.trans (hB9.mono b8.size); have c9 := c8.trans (hB9.mono c8.size); have s39 := Nat.le_trans s38 hB9.size))
    | (go_at_call 18; ((with_reducible refine (hk0.out w2.heap.size _ _ w7 hx7 s27).mono ?_); rintro e w8 ⟨rfl, hx8, hB8, hX8⟩; have b8 := b7.trans (hB8.mono b2.size); have c8 := c7.trans hB8; have hp8 := (hX8 p1 rs (hp7.weak (Nat.le_of_lt s23)) (fun a e => hp7.ne s23 e)).base hp7; have s38 := Nat.le_trans s37 hB8.size))
    | (go_at_call 15; ((with_reducible refine (he0.out _ _ _ _ w6 (Rd.own hO36) (Rd.own hO6)).mono ?_); rintro e w7 ⟨rfl, hB7⟩; have b7 := b6.trans (hB7.mono b6.size); have c7 := c6.trans (hB7.mono c6.size); have hp7 := hp6.below hB7 (Nat.le_refl _); have hx7 := Mn.new (Nat.le_refl _) (hO36.below hB7 hO36.lt); have s27 := c7.size; have s37 := Nat.le_trans s36 hB7.size))
    | (go_at_call 13; ((with_reducible refine (hc.out w5 (hR'.out.below b5)).mono ?_); rintro e w6 ⟨rfl, hO6, hB6⟩; have b6 := b5.trans (hB6.mono b5.size); have c6 := c5.trans (hB6.mono c5.size); have hO36 := hO35.below hB6 hO35.lt; have hp6 := hp5.below hB6 (Nat.le_refl _); have s36 := Nat.le_trans s35 hB6.size))
    | (go_at_call 15; ((with_reducible refine (he1.out _ _ _ _ w4 hp1.rd (hq1.below c4 (Nat.le_refl _)).rd).mono ?_); rintro e w5 ⟨rfl, hB5⟩; have b5 := b4.trans (hB5.mono b4.size); have c5 := c4.trans (hB5.mono c4.size); have hO35 := hO34.below hB5 hO34.lt; have hp5 := hp1.below hB5 (Nat.le_refl _); have s35 := Nat.le_trans hB4.size hB5.size))
    | (go_at_call 17; ((with_reducible refine (hI'.out w3 _ (Rd.own hO3)).mono ?_); rintro e w4 ⟨p1, pc1, rfl, hp1, hB4⟩; have b4 := b3.trans (hB4.mono b3.size); have c4 := c3.trans (hB4.mono c3.size); have hO34 := hO3.below hB4 hO3.lt))
    | (go_at_call 13; ((with_reducible refine (hc.out w2 (hR'.out.below b2)).mono ?_); rintro e w3 ⟨rfl, hO3, hB3⟩; have b3 := b2.trans (hB3.mono b2.size); have c3 := hB3; have s23 := hO3.lt))
    | (go_at_call 16; ((with_reducible refine (hS'.out w1 _ (Rd.own hO1)).mono ?_); rintro e w2 ⟨q1, qc1, rfl, hq1, hB2⟩; have b2 := hB1.trans (hB2.mono hB1.size)))
    | (go_at_call 13; ((with_reducible refine (hc.out w hR'.out).mono ?_); rintro e w1 ⟨rfl, hO1, hB1⟩)))
  go_ret
  exact ⟨rfl, b13⟩
theorem bpm_big (n : Int) (p : Option Addr) (cap : Nat) (len : Nat) (w : World) (hm : len ≤ maxLen) (h : 1048576 < len) : Calls Try.prog 5 #[.int .i64 n, .slice p len cap] w fun e w' => e = .returned (.bool true) ∧ Below w.heap.size w w' := by
  unfold maxLen at hm
  have h' : (1048576 : Int) < (len : Int) := by omega
  go_enter Try.func5, Try.ntmps5
  go_wp2
  go_ret
  exact ⟨rfl, Below.refl _ _⟩
theorem bpm_law (n : Int) (p : Option Addr) (cap : Nat) (xs : List Int) (w : World) (hm : xs.length ≤ maxLen) (hR : Rd w p xs) :
    Calls Try.prog 5 #[.int .i64 n, .slice p xs.length cap] w fun e w' => e = .returned (.bool true) ∧ Below w.heap.size w w' := by
  by_cases h : xs.length ≤ 1048576
  · cases hb : brdB n xs with
    | false => exact bpm_walk n p cap xs w h hR [] (by simp) 2 (fun w q hR => bpmS_bad n _ _ xs w h hR hb) (fun w q hR => bpmI_bad n _ _ xs w h hR hb)
    | true => exact bpm_walk n p cap xs w h hR (bprm n xs) (by rw [bprm_len hb]; have := (brdB_t hb).1; omega) 0 (fun w q hR => bpmS_ok n _ _ xs w hR hb) (fun w q hR => bpmI_ok n _ _ xs w hR hb)
  · exact bpm_big n p cap xs.length w hm (by omega)
end Go.Proofs.Ytfhplhnaijhjlaa
