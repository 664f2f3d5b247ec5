/- Irreducible pairs: the model's reading, and the law. -/
import Derived.Test.YtbikpagoeeelbaaIrr
namespace Go.Proofs.Ytbikpagoeeelbaa
open Go.RowKit
set_option linter.unusedVariables false
set_option linter.unusedSimpArgs false
def N1 (f g : Nat → Nat) (L a : Nat) : Prop := ∀ a' b, a' < a → a' ≤ b → b < L → b - a' + 1 < L → ¬ closedB f g a' b
def N2 (f g : Nat → Nat) (L a b : Nat) : Prop := ∀ b', a ≤ b' → b' < b → b' - a + 1 < L → ¬ closedB f g a b'
set_option maxRecDepth 100000 in
set_option maxHeartbeats 4000000 in
theorem irrS_ok (s t : ByteArray) (hm : s.size ≤ 1048576) (ht : t.size ≤ 1048576) (L : Nat) (oa ob : List Int) (h1 : sarc s.data.toList = some oa) (h2 : sarc t.data.toList = some ob) (h3 : s.size = L) (h5 : pcode s t = 0) (ha : Sys L oa) (hb : Sys L ob) (r : Bool) (hr : r = true ↔ Irr (mf oa) (mf ob) L) (w : World) :
    Calls Try.prog 28 #[.string s, .string t] w fun e w' => e = .returned (.tuple #[.bool r, .int .i64 0]) ∧ Below w.heap.size w w' := by
  have hk := fun w => scd_any s t w hm ht
  rw [h5] at hk
  have hk := Lib.hid hk
  have hca := Lib.hid (fun w => sar_some s w hm oa h1)
  have hcb := Lib.hid (fun w => sar_some t w ht ob h2)
  have hla := Lib.hid ha.len
  have hlb := Lib.hid hb.len
  have h12 := ha.top
  have h2L := ha.two
  have CA := Lib.hid (show ∀ wx g, Own wx g (icells oa) 55 → ∀ j, j < L → wx.cell? ⟨g, j, none⟩ = some (.int .i64 ((mf oa j : Nat) : Int)) from fun wx g h j hj => own_mf h ha j hj)
  have CB := Lib.hid (show ∀ wx g, Own wx g (icells ob) 55 → ∀ j, j < L → wx.cell? ⟨g, j, none⟩ = some (.int .i64 ((mf ob j : Nat) : Int)) from fun wx g h j hj => own_mf h hb j hj)
  have FA := Lib.hid ha.mf.lt
  have FB := Lib.hid hb.mf.lt
  have HI := Lib.hid hr
  generalize hF : mf oa = F at *
  generalize hG : mf ob = G at *
  clear hF hG ha hb hr h1 h2 h5
  go_enter Try.func28, Try.ntmps28
  go_wp2_with (first
    | (go_at_call 37; ((with_reducible refine (hk.out _).mono ?_); rintro e w2 ⟨rfl, hB2⟩))
    | (go_at_call 41; ((with_reducible refine (hca.out w2).mono ?_); rintro e w3 ⟨rfl, hB3⟩))
    | (go_at_call 41; ((with_reducible refine (hcb.out _).mono ?_); rintro e w5 ⟨rfl, hB5⟩))
    | (refine wpList_store_own rfl 55 _ _ rfl _ _ rfl rfl 55 _ (Own.new w3 _ _) (row12i (i12s _ (hla.out))) (st12 hla.out) (one12i _) ?_; intro w4 hO4 hN4)
    | (refine wpList_store_own rfl 55 _ _ rfl _ _ rfl rfl 55 _ (Own.new w5 _ _) (row12i (i12s _ (hlb.out))) (st12 hlb.out) (one12i _) ?_; intro w6 hO6 hN6; have hO4b := ((hO4.below hB5 hO4.lt).alloc (.cells (icells z12) 55)).only hN6 (Nat.ne_of_lt (Nat.lt_of_lt_of_le hO4.lt hB5.size))))
  have b3 := hB2.trans (hB3.mono hB2.size)
  have b4 := (b3.alloc b3.size _).trans (hN4.below.mono b3.size)
  have b5 := b4.trans (hB5.mono b4.size)
  have b6 := (b5.alloc b5.size _).trans (hN6.below.mono b5.size)
  obtain ⟨ga, hga⟩ : ∃ ga, w3.heap.size = ga := ⟨_, rfl⟩
  obtain ⟨gb, hgb⟩ : ∃ gb, w5.heap.size = gb := ⟨_, rfl⟩
  rw [hga] at hO4b
  rw [hgb] at hO6
  rw [hga, hgb]
  clear hga hgb hO4 hN4 hN6 b3 b4 b5 hB2 hB3 hB5
  go_loopw [12] (fun i wr => ∃ a : Nat, a ≤ L ∧ i = .int .i64 a ∧ Hid (N1 F G L a) ∧ Own wr ga (icells oa) 55 ∧ Own wr gb (icells ob) 55 ∧ Below w.heap.size w wr) (fun i _ => ((L : Int) - intOf i).toNat)
  case atStart => exact ⟨0, by omega, rfl, Lib.hid (fun a' b h => by omega), hO4b, hO6, b6⟩
  case round =>
    clear hO4b hO6 b6
    obtain ⟨a, hal, rfl, hN, hA, hB, hW⟩ := hrel
    by_cases hlt : a < L
    · have i1 : (a : Int) < (L : Int) := by omega
      go_wp2
      go_loopw [13] (fun i wx => ∃ b : Nat, a ≤ b ∧ b ≤ L ∧ i = .int .i64 b ∧ Hid (N2 F G L a b) ∧ Own wx ga (icells oa) 55 ∧ Own wx gb (icells ob) 55 ∧ Below w.heap.size w wx) (fun i _ => ((L : Int) - intOf i).toNat)
      case atStart => exact ⟨a, by omega, by omega, rfl, Lib.hid (fun b' h h' => by omega), hA, hB, hW⟩
      case round =>
        clear hA hB hW
        obtain ⟨b, hab, hbl, rfl, hM, hA, hB, hW⟩ := hrel
        by_cases hlb2 : b < L
        · have i2 : (b : Int) < (L : Int) := by omega
          obtain ⟨t0, ht0⟩ : ∃ t0 : Bool, decide ((b : Int) - (a : Int) + 1 < (L : Int)) = t0 := ⟨_, rfl⟩
          have hT0 := Lib.hid ht0
          go_wp2
          go_loopw [14, 15] (fun v i wy => ∃ (p : Nat) (t : Bool), a ≤ p ∧ p ≤ b + 1 ∧ v = .bool t ∧ i = .int .i64 p ∧ Hid (t = true → b - a + 1 < L ∧ OkP F G a b p) ∧ Hid (t = false → ¬ (b - a + 1 < L ∧ closedB F G a b)) ∧ Own wy ga (icells oa) 55 ∧ Own wy gb (icells ob) 55 ∧ Below w.heap.size w wy) (fun _ i _ => ((b : Int) + 1 - intOf i).toNat)
          case atStart =>
            refine ⟨a, t0, by omega, by omega, rfl, rfl, Lib.hid (fun h => ⟨?_, fun q h1 h2 => by omega⟩), Lib.hid (fun h => ?_), hA, hB, hW⟩
            · have := hT0.out; rw [h] at this; have := of_decide_eq_true this; omega
            · rintro ⟨h1, _⟩; have := hT0.out; rw [h] at this; have := of_decide_eq_false this; omega
          case round =>
            clear hA hB hW ht0
            obtain ⟨p, t, hp1, hp2, rfl, rfl, hT, hE, hA, hB, hW⟩ := hrel
            cases t with
            | false =>
              have hM2 := Lib.hid (show N2 F G L a (b + 1) from fun b' h1 h2 h3 hcl => by
                by_cases e : b' = b
                · subst e; exact hE.out rfl ⟨h3, hcl⟩
                · exact hM.out b' h1 (by omega) h3 hcl)
              by_cases hpb : p ≤ b
              · have j1 : (p : Int) ≤ (b : Int) := by omega
                go_wp2
                go_roundw
                case rel => exact ⟨b + 1, by omega, by omega, by go_num, hM2, hA, hB, hW⟩
                case measure => simp [intOf]; omega
              · have j1 : ¬ (p : Int) ≤ (b : Int) := by omega
                go_wp2
                go_roundw
                case rel => exact ⟨b + 1, by omega, by omega, by go_num, hM2, hA, hB, hW⟩
                case measure => simp [intOf]; omega
            | true =>
              obtain ⟨hbl2, hok⟩ := hT.out rfl
              by_cases hpb : p ≤ b
              · have j1 : (p : Int) ≤ (b : Int) := by omega
                have hpL : p < L := by omega
                have p12 : (p : Int) < 12 := by omega
                have a0 := CA.out _ _ hA p hpL
                have b0 := CB.out _ _ hB p hpL
                obtain ⟨x, hx⟩ : ∃ x : Int, ((F p : Nat) : Int) = x := ⟨_, rfl⟩
                obtain ⟨y, hy⟩ : ∃ y : Int, ((G p : Nat) : Int) = y := ⟨_, rfl⟩
                rw [hx] at a0
                rw [hy] at b0
                by_cases k1 : (a : Int) ≤ x ∧ x ≤ (b : Int)
                · by_cases k2 : (a : Int) ≤ y ∧ y ≤ (b : Int)
                  · have hT2 := Lib.hid (show b - a + 1 < L ∧ OkP F G a b (p + 1) from ⟨hbl2, fun q h1 h2 => by
                      by_cases e : q = p
                      · subst e; omega
                      · exact hok q h1 (by omega)⟩)
                    have q1 := Lib.hid (fun w => inS_t x a b w k1.1 k1.2)
                    have q2 := Lib.hid (fun w => inS_t y a b w k2.1 k2.2)
                    clear hx hy hok hT k1 k2
                    go_wp2_with (first
                      | (go_at_call 44; ((with_reducible refine (q1.out _).mono ?_); rintro e w7 ⟨rfl, rfl⟩))
                      | (go_at_call 44; ((with_reducible refine (q2.out _).mono ?_); rintro e w8 ⟨rfl, rfl⟩)))
                    go_roundw
                    case rel => exact ⟨p + 1, true, by omega, by omega, rfl, by go_num, Lib.hid (fun _ => hT2.out), Lib.hid (fun h => by cases h), hA, hB, hW⟩
                    case measure => simp [intOf]; omega
                  · have hE2 := Lib.hid (show ¬ (b - a + 1 < L ∧ closedB F G a b) from fun ⟨_, hcl⟩ => k2 (by have := hcl p hp1 hpb; omega))
                    have q1 := Lib.hid (fun w => inS_t x a b w k1.1 k1.2)
                    have q2 := Lib.hid (fun w => inS_f y a b w (by omega))
                    clear hx hy hok hT k1 k2
                    go_wp2_with (first
                      | (go_at_call 44; ((with_reducible refine (q1.out _).mono ?_); rintro e w7 ⟨rfl, rfl⟩))
                      | (go_at_call 44; ((with_reducible refine (q2.out _).mono ?_); rintro e w8 ⟨rfl, rfl⟩)))
                    go_roundw
                    case rel => exact ⟨p + 1, false, by omega, by omega, rfl, by go_num, Lib.hid (fun h => by cases h), Lib.hid (fun _ => hE2.out), hA, hB, hW⟩
                    case measure => simp [intOf]; omega
                · have hE2 := Lib.hid (show ¬ (b - a + 1 < L ∧ closedB F G a b) from fun ⟨_, hcl⟩ => k1 (by have := hcl p hp1 hpb; omega))
                  have q1 := Lib.hid (fun w => inS_f x a b w (by omega))
                  clear hx hy hok hT k1
                  go_wp2_with (first
                    | (go_at_call 44; ((with_reducible refine (q1.out _).mono ?_); rintro e w7 ⟨rfl, rfl⟩)))
                  go_roundw
                  case rel => exact ⟨p + 1, false, by omega, by omega, rfl, by go_num, Lib.hid (fun h => by cases h), Lib.hid (fun _ => hE2.out), hA, hB, hW⟩
                  case measure => simp [intOf]; omega
              · have j1 : ¬ (p : Int) ≤ (b : Int) := by omega
                have hrf : r = false := by
                  cases r with
                  | false => rfl
                  | true => exact absurd (show closedB F G a b from fun q h1 h2 => hok q h1 (by omega)) (HI.out.1 rfl a b hab (by omega) (by omega))
                subst hrf
                go_wp2
                go_ret2
                exact ⟨rfl, hW⟩
        · have e : b = L := by omega
          subst e
          have hN2 := Lib.hid (show N1 F G b (a + 1) from fun a' b' h1 h2 h3 h4 => by
            by_cases e : a' = a
            · subst e; exact hM.out b' h2 h3 h4
            · exact hN.out a' b' (by omega) h2 h3 h4)
          go_wp2
          go_roundw
          case rel => exact ⟨a + 1, by omega, by go_num, hN2, hA, hB, hW⟩
          case measure => simp [intOf]; omega
    · have e : a = L := by omega
      subst e
      have hrt : r = true := HI.out.2 (fun x y h1 h2 h3 => hN.out x y (by omega) h1 h2 h3)
      subst hrt
      go_wp2
      go_ret2
      exact ⟨rfl, hW⟩
theorem irr_both (s t : ByteArray) (hm : s.size ≤ 1048576) (ht : t.size ≤ 1048576) : ∃ (x : Bool) (c : Int),
    (∀ w, Calls Try.prog 28 #[.string s, .string t] w fun e w' => e = .returned (.tuple #[.bool x, .int .i64 c]) ∧ Below w.heap.size w w') ∧
    (∀ w, Calls Try.prog 29 #[.string s, .string t] w fun e w' => e = .returned (.tuple #[.bool x, .int .i64 c]) ∧ Below w.heap.size w w') := by
  by_cases h0 : pcode s t = 0
  · rcases pair_cases s t with ⟨h1, h2⟩ | ⟨oa, ob, h1, h2, h3, h4⟩ | ⟨oa, ob, L, h1, h2, h3, h4, h5, S1, S2⟩
    · omega
    · omega
    · obtain ⟨r, hr⟩ : ∃ r : Bool, r = true ↔ Irr (mf oa) (mf ob) L := by
        by_cases h : Irr (mf oa) (mf ob) L
        · exact ⟨true, by simp [h]⟩
        · exact ⟨false, by simp [h]⟩
      refine ⟨r, 0, fun w => irrS_ok s t hm ht L oa ob h1 h2 h3 h5 S1 S2 r hr w, fun w => ?_⟩
      have hp := Lib.hid (fun w => apa_ok s t w hm oa ob h1 h2 L h3 h4)
      have hc := Lib.hid (fun ga gb w hA hB => irrI_any L oa ob S1 S2 ga gb w hA hB r hr)
      clear h1 h2 h0 h5 hr
      go_enter Try.func29, Try.ntmps29
      go_wp2_with (first
        | (go_at_call 39; ((with_reducible refine (hp.out _).mono ?_); rintro e w1 ⟨ga, gb, rfl, hA, hB, hB1⟩))
        | (go_at_call 53; ((with_reducible refine (hc.out ga gb _ hA hB).mono ?_); rintro e w2 ⟨rfl, hB2⟩)))
      go_ret2
      exact ⟨rfl, hB1.trans (hB2.mono hB1.size)⟩
  · have hk := fun w => scd_any s t w hm ht
    have hb := Lib.hid (fun w => apa_bad s t hm ht _ rfl h0 w)
    obtain ⟨c, hc⟩ : ∃ c, pcode s t = c := ⟨_, rfl⟩
    rw [hc] at h0 hk hb
    have hk := Lib.hid hk
    have hc0 : (c != 0) = true := by simpa using h0
    clear hc h0
    refine ⟨false, c, fun w => ?_, fun w => ?_⟩
    · go_enter Try.func28, Try.ntmps28
      go_wp2_with (first
        | (go_at_call 37; ((with_reducible refine (hk.out _).mono ?_); rintro e w1 ⟨rfl, hB1⟩)))
      go_ret2
      exact ⟨rfl, hB1⟩
    · go_enter Try.func29, Try.ntmps29
      go_wp2_with (first
        | (go_at_call 39; ((with_reducible refine (hb.out _).mono ?_); rintro e w1 ⟨rfl, hB1⟩)))
      go_ret2
      exact ⟨rfl, hB1⟩
theorem irr_law (s t : ByteArray) (w : World) (hl : s.size ≤ maxLen) (hl2 : t.size ≤ maxLen) :
    Calls Try.prog 9 #[.string s, .string t] w fun e w' => e = .returned (.bool true) ∧ Below w.heap.size w w' := by
  unfold maxLen at hl hl2
  by_cases hm : s.size ≤ 1048576
  · have c1 : ¬ (1048576 : Int) < (s.size : Int) := by omega
    by_cases ht : t.size ≤ 1048576
    · have c2 : ¬ (1048576 : Int) < (t.size : Int) := by omega
      obtain ⟨x, c, hS, hI⟩ := irr_both s t hm ht
      have hS := Lib.hid hS
      have hI := Lib.hid hI
      clear hm ht
      go_enter Try.func9, Try.ntmps9
      go_wp2_with (first
        | (go_at_call 28; ((with_reducible refine (hS.out _).mono ?_); rintro e w1 ⟨rfl, hB1⟩))
        | (go_at_call 29; ((with_reducible refine (hI.out _).mono ?_); rintro e w2 ⟨rfl, hB2⟩)))
      go_ret
      exact ⟨rfl, hB1.trans (hB2.mono hB1.size)⟩
    · have c2 : (1048576 : Int) < (t.size : Int) := by omega
      clear hm ht
      go_enter Try.func9, Try.ntmps9
      go_wp2
      go_ret
      exact ⟨rfl, Below.refl _ _⟩
  · have c1 : (1048576 : Int) < (s.size : Int) := by omega
    clear hm
    go_enter Try.func9, Try.ntmps9
    go_wp2
    go_ret
    exact ⟨rfl, Below.refl _ _⟩
end Go.Proofs.Ytbikpagoeeelbaa
