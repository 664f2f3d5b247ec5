/- Contracts of DescentsOf, the program's and the model's. -/
import Derived.Test.YtbgmfpofmdfbbaaDiaB
import Derived.Test.YtbgmfpofmdfbbaaMark
import Derived.Test.YtbgmfpofmdfbbaaLawD
import Derived.Test.YtbgmfpofmdfbbaaInv
namespace Go.Proofs.Ytbgmfpofmdfbbaa
open Go.RowKit
set_option linter.unusedVariables false
/-- Of the first k neighbours behind the point f, those that are joined. -/
def dsc (ms : List Int) (f : Int) : Nat → List Int
  | 0 => []
  | k + 1 => dsc ms f k ++ (if mate ms (f + k) = f + k + 1 then [(k : Int)] else [])
theorem dsc_len (ms : List Int) (f : Int) (k : Nat) : (dsc ms f k).length ≤ k := by
  induction k with
  | zero => simp [dsc]
  | succ k ih => unfold dsc; split <;> simp <;> omega
theorem mk0d : ∀ w : World, (Instr.buildSlice 43 0 #[]).run Try.prog w = .ok (.slice (some ⟨w.heap.size, 0, none⟩) 0 0) (w.alloc (.cells #[] 2)) := by
  intro w; kernel_rfl
set_option maxRecDepth 100000 in
set_option maxHeartbeats 1000000 in
theorem descI_any (n : Int) (ms : List Int) (hms : ms.length = 16) (hb : Bytes ms) (h1 : 1 ≤ n) (h8 : n ≤ 8) (f : Int) (f0 : 0 ≤ f) (f8 : f ≤ n) (w : World) :
    Calls Try.prog 66 #[.agg (dcells n ms), .int .i64 f] w fun e w' => (∃ (g cap : Nat), e = .returned (.slice (some ⟨g, 0, none⟩) (dsc ms f (n - 1).toNat).length cap) ∧ Mn w' w.heap.size (some ⟨g, 0, none⟩) (dsc ms f (n - 1).toNat)) ∧ Below w.heap.size w w' := by
  have hl := Lib.hid hms
  have hbb := Lib.hid hb
  have c0 := dcells_zero n ms
  have hmk := mk0d
  obtain ⟨N, hN⟩ : ∃ N, (n - 1).toNat = N := ⟨_, rfl⟩
  rw [hN]
  have hN' := Lib.hid hN
  clear hms hb hN
  go_enter Try.func66, Try.ntmps66
  go_wp2
  have hOa : Own ((w.alloc (.cells (dcells n ms) 25)).alloc (.cells #[] 2)) w.heap.size (dcells n ms) 25 := Own.alloc (Own.new _ _ _) _
  have hIa : Ints ((w.alloc (.cells (dcells n ms) 25)).alloc (.cells #[] 2)) (w.heap.size + 1) (w.heap.size + 1) 0 [] := Ints.new _ _ _ _ (by simp) (by simp) (by decide) #[] rfl
  have hBa : Below w.heap.size w ((w.alloc (.cells (dcells n ms) 25)).alloc (.cells #[] 2)) := ((Below.refl _ _).alloc (Nat.le_refl _) _).alloc (by simp) _
  clear hmk c0
  go_loopw [5, 11] (fun v i wr => ∃ (k g cap : Nat), k ≤ n - 1 ∧ i = .int .i64 k ∧ v = .slice (some ⟨g, 0, none⟩) (dsc ms f k).length cap ∧ Own wr w.heap.size (dcells n ms) 25 ∧ Ints wr (w.heap.size + 1) g cap (dsc ms f k) ∧ Below w.heap.size w wr) (fun _ i _ => (n - 1 - intOf i).toNat)
  case atStart => exact ⟨0, _, _, by omega, rfl, rfl, hOa, hIa, hBa⟩
  case round =>
    clear hOa hIa hBa
    obtain ⟨k, g, cap, hk, rfl, rfl, hO, hI, hB⟩ := hrel
    have hdl := dsc_len ms f k
    by_cases hlt : (k : Int) < n - 1
    · obtain ⟨m, hm⟩ : ∃ m, mate ms (f + k) = m := ⟨_, rfl⟩
      have mb := hbb.out.get (f + k).toNat
      have c1 : wr.cell? ⟨w.heap.size, 1 + (f + k).toNat, none⟩ = some (.int .u8 m) := by rw [hO.cell, dcells_get _ _ _ (by rw [hl.out]; omega)]; unfold mate at hm; rw [hm]
      unfold mate at hm
      rw [hm] at mb
      obtain ⟨m0, m2⟩ := mb
      have hsz := hB.size
      have hg := hI.1
      have hdl' := Lib.hid hdl
      have fk0 : 0 ≤ f + (k : Int) := by omega
      have fk16 : f + (k : Int) < 16 := by omega
      by_cases hc : m = f + k + 1
      · have hst := Lib.hid (show dsc ms f (k + 1) = dsc ms f k ++ [(k : Int)] by rw [dsc, if_pos (by unfold mate; rw [hm]; exact hc)])
        have hq : (dsc ms f k).length < 100 := by have := hdl'.out; omega
        clear hm hdl
        go_wp2_with (first
          | (refine wpList_append_ints rfl (.tmp 26) (.tmp 28) rfl (w.heap.size + 1) g cap (dsc ms f k) k rfl (hI.alloc _) ⟨wr.heap.size, 0, none⟩ 1 rfl ((Own.new _ _ _).cell 0) (by omega) (by have := hO.lt; simp <;> omega) ?_; intro g2 cap2 w2 hI2 hG2))
        have hO2 := (hO.alloc _).grown hG2 (by omega)
        have hB2 : Below w.heap.size w w2 := (hB.alloc hsz _).grown hG2 (by simp; omega) (fun k e => by simp at e; omega)
        rw [← hst.out] at hI2
        clear hO hB hI hG2
        go_wp2
        go_roundw
        case rel => exact ⟨k + 1, g2, cap2, by omega, by go_num, by rw [hst.out]; rfl, hO2, hI2, hB2⟩
        case measure => simp [intOf]; omega
      · have hst := Lib.hid (show dsc ms f (k + 1) = dsc ms f k by rw [dsc, if_neg (by unfold mate; rw [hm]; exact hc), List.append_nil])
        clear hm hdl
        go_wp2
        go_roundw
        case rel => exact ⟨k + 1, g, cap, by omega, by go_num, by rw [hst.out], hO, by rw [hst.out]; exact hI, hB⟩
        case measure => simp [intOf]; omega
    · have e : N = k := by have := hN'.out; omega
      subst e
      have hM := Lib.hid (Mn.ints (B := w.heap.size) (Nat.le_succ _) hI)
      clear hdl
      go_wp2
      go_ret
      exact ⟨⟨g, ⟨cap, rfl⟩, hM.out⟩, hB⟩
/-- Two lists in memory of a call's own, at different blocks, and a code. -/
def ResII (xs ys : List Int) (c : Int) (w : World) (e : Ending) (w' : World) : Prop :=
  ∃ (p q : Option Addr) (cap cap' : Nat), e = .returned (.tuple #[.slice p xs.length cap, .slice q ys.length cap', .int .i64 c]) ∧ Mn w' w.heap.size p xs ∧ Mn w' w.heap.size q ys ∧ (∀ a, p = some a → q ≠ some a) ∧ Below w.heap.size w w'
set_option maxRecDepth 100000 in
theorem descOfI_bad (n : Int) (ms : List Int) (hms : ms.length = 16) (hb : Bytes ms) (hd : isD n ms = false) (w : World) :
    Calls Try.prog 39 #[.agg (dcells n ms)] w (ResII [] [] 1 w) := by
  have hl := Lib.hid hms
  have hc := Lib.hid (fun w => isI_any n ms hms hb w)
  rw [hd] at hc
  clear hms hb hd
  go_enter Try.func39, Try.ntmps39
  go_wp2_with (first
    | (refine wpList_load_row rfl 25 _ rfl _ rfl 25 _ (0, 0) _ (Own.new _ _ _) Try.underlying25 rfl (row26 (d17 _ _ (hl.out))) ?_)
    | (go_at_call 45; ((with_reducible refine (hc.out _).mono ?_); rintro e w1 ⟨rfl, hB1⟩)))
  go_ret3
  have b0 : Below w.heap.size w (w.alloc (.cells (dcells n ms) 25)) := (Below.refl _ _).alloc (Nat.le_refl _) _
  exact ⟨none, none, 0, 0, rfl, Mn.nil _ _, Mn.nil _ _, fun a e => (by cases e), b0.trans (hB1.mono b0.size)⟩
set_option maxRecDepth 100000 in
theorem descOfS_bad (n : Int) (ms : List Int) (hms : ms.length = 16) (hb : Bytes ms) (hd : isD n ms = false) (w : World) :
    Calls Try.prog 38 #[.agg (dcells n ms)] w (ResII [] [] 1 w) := by
  have hl := Lib.hid hms
  have hc := Lib.hid (fun w => l01Is_dec n ms hms hb w)
  rw [hd] at hc
  clear hms hb hd
  go_enter Try.func38, Try.ntmps38
  go_wp2_with (first
    | (refine wpList_load_row rfl 25 _ rfl _ rfl 25 _ (0, 0) _ (Own.new _ _ _) Try.underlying25 rfl (row26 (d17 _ _ (hl.out))) ?_)
    | (go_at_call 51; ((with_reducible refine (hc.out _).mono ?_); rintro e w1 ⟨rfl, hB1⟩)))
  go_ret3
  have b0 : Below w.heap.size w (w.alloc (.cells (dcells n ms) 25)) := (Below.refl _ _).alloc (Nat.le_refl _) _
  exact ⟨none, none, 0, 0, rfl, Mn.nil _ _, Mn.nil _ _, fun a e => (by cases e), b0.trans (hB1.mono b0.size)⟩
def blk : Value → Option Nat
  | .slice (some a) _ _ => some a.block
  | _ => none
/-- Two slices that lie in memory that is there, and not at one block. -/
def Sep (x y : Value) (w : World) : Prop := (∀ g, blk x = some g → g < w.heap.size) ∧ (∀ g, blk y = some g → g < w.heap.size) ∧ ∀ g h, blk x = some g → blk y = some h → g ≠ h
theorem Sep.start (w : World) : Sep undef undef w := ⟨fun g h => (by cases h), fun g h => (by cases h), fun g h e => (by cases e)⟩
theorem Mn.lt {w : World} {B g : Nat} {a : Addr} {xs : List Int} (h : Mn w B (some a) xs) : B ≤ a.block ∧ a.block < w.heap.size := by
  rcases h with ⟨h, _⟩ | ⟨g, sp, h, hb, ho⟩
  · cases h
  · cases h; exact ⟨hb, ho.lt⟩
theorem Sep.left {x y : Value} {w w' : World} (h : Sep x y w) {g : Nat} {n cap : Nat} {xs : List Int} (hM : Mn w' w.heap.size (some ⟨g, 0, none⟩) xs) (hs : w.heap.size ≤ w'.heap.size) : Sep (.slice (some ⟨g, 0, none⟩) n cap) y w' := by
  have l := Mn.lt (g := g) hM
  refine ⟨fun k e => ?_, fun k e => Nat.lt_of_lt_of_le (h.2.1 k e) hs, fun k j e e2 => ?_⟩
  · simp [blk] at e; subst e; exact l.2
  · simp [blk] at e; subst e; have := h.2.1 j e2; have := l.1; simp at this; omega
theorem Sep.right {x y : Value} {w w' : World} (h : Sep x y w) {g : Nat} {n cap : Nat} {xs : List Int} (hM : Mn w' w.heap.size (some ⟨g, 0, none⟩) xs) (hs : w.heap.size ≤ w'.heap.size) : Sep x (.slice (some ⟨g, 0, none⟩) n cap) w' := by
  have l := Mn.lt (g := g) hM
  refine ⟨fun k e => Nat.lt_of_lt_of_le (h.1 k e) hs, fun k e => ?_, fun k j e e2 => ?_⟩
  · simp [blk] at e; subst e; exact l.2
  · simp [blk] at e2; subst e2; have := h.1 k e; have := l.1; simp at this; omega
set_option maxRecDepth 100000 in
set_option maxHeartbeats 1000000 in
theorem descOfI_ok (n : Int) (ms : List Int) (hms : ms.length = 16) (hb : Bytes ms) (hd : isD n ms = true) (w : World) :
    Calls Try.prog 39 #[.agg (dcells n ms)] w (ResII (dsc ms 0 (n - 1).toNat) (dsc ms n (n - 1).toNat) 0 w) := by
  have hl := Lib.hid hms
  have hc := Lib.hid (fun w => isI_any n ms hms hb w)
  have hn := ((isD_iff n ms hms hb).1 hd).1
  have hf := Lib.hid (fun f f0 f8 w => descI_any n ms hms hb hn.1 hn.2 f f0 f8 w)
  rw [hd] at hc
  obtain ⟨h1, h8⟩ := hn
  obtain ⟨N, hN⟩ : ∃ N, (n - 1).toNat = N := ⟨_, rfl⟩
  rw [hN] at hf ⊢
  obtain ⟨X1, hX1⟩ : ∃ X, dsc ms 0 N = X := ⟨_, rfl⟩
  obtain ⟨X2, hX2⟩ : ∃ X, dsc ms n N = X := ⟨_, rfl⟩
  obtain ⟨l1, hl1⟩ : ∃ l, X1.length = l := ⟨_, rfl⟩
  obtain ⟨l2, hl2⟩ : ∃ l, X2.length = l := ⟨_, rfl⟩
  have hf1 := Lib.hid (fun w => hf.out 0 (by omega) (by omega) w)
  have hf2 := Lib.hid (fun w => hf.out n (by omega) (by omega) w)
  rw [hX1, hl1] at hf1
  rw [hX2, hl2] at hf2
  rw [hX1, hX2]
  have HL1 := Lib.hid hl1
  have HL2 := Lib.hid hl2
  clear hms hb hd hN hf hX1 hX2 hl1 hl2
  go_enter Try.func39, Try.ntmps39
  go_wp2_with (first
    | (refine wpList_load_row rfl 25 _ rfl _ rfl 25 _ (0, 0) _ (Own.new _ _ _) Try.underlying25 rfl (row26 (d17 _ _ (hl.out))) ?_)
    | (go_at_call 45; ((with_reducible refine (hc.out _).mono ?_); rintro e w1 ⟨rfl, hB1⟩)))
  have b0 : Below w.heap.size w (w.alloc (.cells (dcells n ms) 25)) := (Below.refl _ _).alloc (Nat.le_refl _) _
  have b1 := (b0.trans (hB1.mono b0.size)).drew
  have hOc : Own w1 w.heap.size (dcells n ms) 25 := (Own.new _ _ _).below hB1 (by simp)
  have hOd : Own w1.drew w.heap.size (dcells n ms) 25 := hOc
  obtain ⟨wd, hwd⟩ : ∃ wd, w1.drew = wd := ⟨_, rfl⟩
  rw [hwd] at b1 hOd
  have hOl := hOd.lt
  clear b0 hB1
  refine wp_region_facts (by kernel_rfl) (by kernel_rfl) (fun a w' => ∃ x2 x3 x4 x8 x9 x10 x11 x12 x13 : Value, a = ⟨List.toArray [.agg (dcells n ms), .pointer (some ⟨w.heap.size, 0, none⟩), x2, x3, x4, .agg (dcells n ms), .bool true, .bool false, x8, x9, x10, x11, x12, x13], []⟩ ∧ Below wd.heap.size wd w' ∧ Sep x9 x13 w') (fun j a w' => match j with | 0 => sl a 8 = .agg (dcells n ms) | 1 => ∃ g cap, sl a 9 = .slice (some ⟨g, 0, none⟩) l1 cap ∧ Mn w' wd.heap.size (some ⟨g, 0, none⟩) X1 | 2 => sl a 10 = .agg (dcells n ms) | 3 => sl a 11 = .pointer (some ⟨w.heap.size, 0, none⟩) | 4 => sl a 12 = .int .i64 n | 5 => ∃ g cap, sl a 13 = .slice (some ⟨g, 0, none⟩) l2 cap ∧ Mn w' wd.heap.size (some ⟨g, 0, none⟩) X2 | 6 => ∃ g cap, sl a 9 = .slice (some ⟨g, 0, none⟩) l1 cap ∧ sl a 2 = .slice (some ⟨g, 0, none⟩) l1 cap ∧ Mn w' wd.heap.size (some ⟨g, 0, none⟩) X1 | 7 => ∃ g cap, sl a 13 = .slice (some ⟨g, 0, none⟩) l2 cap ∧ sl a 3 = .slice (some ⟨g, 0, none⟩) l2 cap ∧ Mn w' wd.heap.size (some ⟨g, 0, none⟩) X2 | 8 => sl a 4 = .int .i64 0 | _ => True) ⟨_, _, _, _, _, _, _, _, _, rfl, by rw [← hwd]; exact Below.refl _ _, Sep.start _⟩ ?_ ?_
  · refine (AllOps.cons ?_ (AllOps.cons ?_ (AllOps.cons ?_ (AllOps.cons ?_ (AllOps.cons ?_ (AllOps.cons ?_ (AllOps.cons ?_ (AllOps.cons ?_ (AllOps.cons ?_ AllOps.nil)))))))))
    · rintro a w0 ⟨x2, x3, x4, x8, x9, x10, x11, x12, x13, rfl, hB, hT⟩ hd K hK
      go_wp2_with (first | (refine wpList_load_row rfl 25 _ rfl _ rfl 25 _ (0, 0) _ (hOd.below hB hOl) Try.underlying25 rfl (row26 (d17 _ _ (hl.out))) ?_))
      refine hK _ _ ⟨_, _, _, _, _, _, _, _, _, rfl, hB, hT⟩ (rfl) ?_
      rintro (_|_|_|_|_|_|_|_|_|_) hj hn h <;> first | exact h | exact absurd rfl hj | exact waits_no hn (by kernel_rfl)
    · rintro a w0 ⟨x2, x3, x4, x8, x9, x10, x11, x12, x13, rfl, hB, hT⟩ hd K hK
      have d0 : x8 = _ := hd 0 (by kernel_rfl)
      subst d0
      go_wp2_with (first | (go_at_call 66; ((with_reducible refine (hf1.out _).mono ?_); rintro e w2 ⟨⟨g, cap, rfl, hM2⟩, hB2⟩)))
      refine hK _ _ ⟨_, _, _, _, _, _, _, _, _, rfl, hB.trans (hB2.mono hB.size), hT.left hM2 hB2.size⟩ (⟨g, cap, rfl, hM2.weak hB.size⟩) ?_
      rintro (_|_|_|_|_|_|_|_|_|_) hj hn h <;> first | exact h | exact absurd rfl hj | (obtain ⟨g, cap, e, hM⟩ := h; exact ⟨g, cap, e, hM.below hB2 (Nat.le_refl _)⟩) | (obtain ⟨g, cap, e, e2, hM⟩ := h; exact ⟨g, cap, e, e2, hM.below hB2 (Nat.le_refl _)⟩) | exact waits_no hn (by kernel_rfl)
    · rintro a w0 ⟨x2, x3, x4, x8, x9, x10, x11, x12, x13, rfl, hB, hT⟩ hd K hK
      go_wp2_with (first | (refine wpList_load_row rfl 25 _ rfl _ rfl 25 _ (0, 0) _ (hOd.below hB hOl) Try.underlying25 rfl (row26 (d17 _ _ (hl.out))) ?_))
      refine hK _ _ ⟨_, _, _, _, _, _, _, _, _, rfl, hB, hT⟩ (rfl) ?_
      rintro (_|_|_|_|_|_|_|_|_|_) hj hn h <;> first | exact h | exact absurd rfl hj | exact waits_no hn (by kernel_rfl)
    · rintro a w0 ⟨x2, x3, x4, x8, x9, x10, x11, x12, x13, rfl, hB, hT⟩ hd K hK
      go_wp2
      refine hK _ _ ⟨_, _, _, _, _, _, _, _, _, rfl, hB, hT⟩ (rfl) ?_
      rintro (_|_|_|_|_|_|_|_|_|_) hj hn h <;> first | exact h | exact absurd rfl hj | exact waits_no hn (by kernel_rfl)
    · rintro a w0 ⟨x2, x3, x4, x8, x9, x10, x11, x12, x13, rfl, hB, hT⟩ hd K hK
      have d0 : x11 = _ := hd 3 (by kernel_rfl)
      subst d0
      have c0 := (hOd.below hB hOl).cell 0
      rw [dcells_zero] at c0
      go_wp2
      refine hK _ _ ⟨_, _, _, _, _, _, _, _, _, rfl, hB, hT⟩ (rfl) ?_
      rintro (_|_|_|_|_|_|_|_|_|_) hj hn h <;> first | exact h | exact absurd rfl hj | exact waits_no hn (by kernel_rfl)
    · rintro a w0 ⟨x2, x3, x4, x8, x9, x10, x11, x12, x13, rfl, hB, hT⟩ hd K hK
      have d0 : x10 = _ := hd 2 (by kernel_rfl)
      have d1 : x12 = _ := hd 4 (by kernel_rfl)
      subst d0 d1
      go_wp2_with (first | (go_at_call 66; ((with_reducible refine (hf2.out _).mono ?_); rintro e w2 ⟨⟨g, cap, rfl, hM2⟩, hB2⟩)))
      refine hK _ _ ⟨_, _, _, _, _, _, _, _, _, rfl, hB.trans (hB2.mono hB.size), hT.right hM2 hB2.size⟩ (⟨g, cap, rfl, hM2.weak hB.size⟩) ?_
      rintro (_|_|_|_|_|_|_|_|_|_) hj hn h <;> first | exact h | exact absurd rfl hj | (obtain ⟨g, cap, e, hM⟩ := h; exact ⟨g, cap, e, hM.below hB2 (Nat.le_refl _)⟩) | (obtain ⟨g, cap, e, e2, hM⟩ := h; exact ⟨g, cap, e, e2, hM.below hB2 (Nat.le_refl _)⟩) | exact waits_no hn (by kernel_rfl)
    · rintro a w0 ⟨x2, x3, x4, x8, x9, x10, x11, x12, x13, rfl, hB, hT⟩ hd K hK
      obtain ⟨g, cap, d0, hM⟩ := hd 1 (by kernel_rfl)
      have d0 : x9 = _ := d0
      subst d0
      go_wp2
      refine hK _ _ ⟨_, _, _, _, _, _, _, _, _, rfl, hB, hT⟩ (⟨g, cap, rfl, rfl, hM⟩) ?_
      rintro (_|_|_|_|_|_|_|_|_|_) hj hn h <;> first | exact h | exact absurd rfl hj | exact waits_no hn (by kernel_rfl)
    · rintro a w0 ⟨x2, x3, x4, x8, x9, x10, x11, x12, x13, rfl, hB, hT⟩ hd K hK
      obtain ⟨g, cap, d0, hM⟩ := hd 5 (by kernel_rfl)
      have d0 : x13 = _ := d0
      subst d0
      go_wp2
      refine hK _ _ ⟨_, _, _, _, _, _, _, _, _, rfl, hB, hT⟩ (⟨g, cap, rfl, rfl, hM⟩) ?_
      rintro (_|_|_|_|_|_|_|_|_|_) hj hn h <;> first | exact h | exact absurd rfl hj | exact waits_no hn (by kernel_rfl)
    · rintro a w0 ⟨x2, x3, x4, x8, x9, x10, x11, x12, x13, rfl, hB, hT⟩ hd K hK
      go_wp2
      refine hK _ _ ⟨_, _, _, _, _, _, _, _, _, rfl, hB, hT⟩ (rfl) ?_
      rintro (_|_|_|_|_|_|_|_|_|_) hj hn h <;> first | exact h | exact absurd rfl hj | exact waits_no hn (by kernel_rfl)
  · rintro a w3 ⟨x2, x3, x4, x8, x9, x10, x11, x12, x13, rfl, hB, hT⟩ hF
    obtain ⟨g, cap, d9, d2, hM⟩ := hF 6 (by decide)
    obtain ⟨g', cap', d13, d3, hM'⟩ := hF 7 (by decide)
    have d4 : x4 = _ := hF 8 (by decide)
    have d9 : x9 = _ := d9
    have d2 : x2 = _ := d2
    have d13 : x13 = _ := d13
    have d3 : x3 = _ := d3
    subst d9 d2 d13 d3 d4
    go_wp2
    go_ret3
    refine ⟨some ⟨g, 0, none⟩, some ⟨g', 0, none⟩, cap, cap', ?_, hM.weak b1.size, hM'.weak b1.size, ?_, b1.trans (hB.mono b1.size)⟩
    · rw [HL1.out, HL2.out]; rfl
    · intro a e1 e2
      cases e1
      have := hT.2.2 g g' rfl rfl
      simp at e2
end Go.Proofs.Ytbgmfpofmdfbbaa
