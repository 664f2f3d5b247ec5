/- PowersOfPartition: the program. -/
import Derived.Test.YtlgdeciikliihaaPpx
import Derived.Test.YtlgdeciikliihaaPrJ
import Derived.Test.YtlgdeciikliihaaPii
import Derived.Test.YtlgdeciikliihaaTerm
import Derived.Test.YtlgdeciikliihaaMark
import Derived.Deep.CutRange
namespace Go.Proofs.Ytlgdeciikliihaa
open Go.RowKit Go.Lib
set_option linter.unusedVariables false
set_option linter.unusedSimpArgs false
theorem gen_pow {P : Program} {c : Code} {Q : Exit → Act → World → Prop} {a : Act} {W : World} (S : World → Prop) (h : S W) (k : ∀ x, S x → c.wp P Q a x) : c.wp P Q a W := k W h
theorem mk2i (a b : Int) : ∀ w : World, (Instr.buildSlice 28 2 #[(0, .int .i64 a), (1, .int .i64 b)]).run Try.prog w = .ok (.slice (some ⟨w.heap.size, 0, none⟩) 2 2) (w.alloc (.cells (icells [a, b]) 2)) := by
  intro w; kernel_rfl
theorem idxP_lt (N : Nat) (A : List Int) (h8 : A.length = 8) (h4 : N ≤ 4) (M : Nat) (hM : M ≤ 16777216) (hdis : ∀ a b, a < b → b < M → pwP N A a ≠ pwP N A b) (m : Nat) (hm : m < M) (base g cap : Nat) (w : World) (hR : RowQ w base (.slice (some ⟨g, 0, none⟩) m cap) (pls N A m)) :
    Calls Try.prog 32 #[.slice (some ⟨g, 0, none⟩) m cap, .agg (dcells N (pwP N A m))] w fun e w' => e = .returned (.int .i64 (-1)) ∧ Below w.heap.size w w' := by
  have h := idxQ_any N A h8 h4 (pwP N A m) (pwP_len N A h8 h4 m) m m base g cap (by omega) (Nat.le_refl _) (fun j hj => hdis j m hj hm) (fun h => by omega) w hR
  rw [if_neg (by omega)] at h
  exact h
theorem idxP_eq (N : Nat) (A : List Int) (h8 : A.length = 8) (h4 : N ≤ 4) (M I : Nat) (hIM : I < M) (hM : M ≤ 16777216) (hq : pwP N A I = pwP N A M) (hdis : ∀ a b, a < b → b < M → pwP N A a ≠ pwP N A b) (base g cap : Nat) (w : World) (hR : RowQ w base (.slice (some ⟨g, 0, none⟩) M cap) (pls N A M)) :
    Calls Try.prog 32 #[.slice (some ⟨g, 0, none⟩) M cap, .agg (dcells N (pwP N A M))] w fun e w' => e = .returned (.int .i64 (I : Int)) ∧ Below w.heap.size w w' := by
  have h := idxQ_any N A h8 h4 (pwP N A M) (pwP_len N A h8 h4 M) M I base g cap (by omega) (by omega) (fun j hj => by rw [← hq]; exact hdis j I hj hIM) (fun h => hq) w hR
  rw [if_pos hIM] at h
  exact h
def lenV : Value → Nat
  | .slice _ n _ => n
  | _ => 0
theorem RowQ.one (w : World) (base n : Nat) (ms : List Int) (h8 : ms.length = 8) (hb : base ≤ w.heap.size) : RowQ (w.alloc (.cells (dcells n ms) 31)) base (.slice (some ⟨w.heap.size, 0, none⟩) 1 1) [((n : Int), ms)] := by
  refine ⟨by simp [qrl, dcells, h8], .inr ⟨_, 1, dcells n ms, rfl, hb, Own.new _ _ _, Nat.le_refl _, by unfold maxLen; omega, by rw [d9 _ _ h8], ?_⟩⟩
  show (dcells n ms).toList.take 9 = qrl [((n : Int), ms)]
  rw [List.take_of_length_le (by rw [dl9 h8]; exact Nat.le_refl _)]
  simp [qrl]
set_option maxRecDepth 100000 in
set_option maxHeartbeats 8000000 in
theorem pwI_ok (N : Nat) (A : List Int) (h8 : A.length = 8) (hb : Bytes A) (hA : Nums A) (hd : isP N A = true) (M I : Nat) (hIM : I < M) (hM : M ≤ 16777216) (hq : pwP N A I = pwP N A M) (hdis : ∀ a b, a < b → b < M → pwP N A a ≠ pwP N A b) (w : World) :
    Calls Try.prog 10 #[.agg (dcells N A)] w (ResI [(I : Int) + 1, (M : Int) - I] 0 w) := by
  have hl := Lib.hid h8
  have hN := isP_n hd
  have h1 : 1 ≤ N := by omega
  have h4 : N ≤ 4 := by omega
  have hc := Lib.hid (fun w => isPI_any N A h8 w)
  rw [hd] at hc
  have hmk := Lib.hid (fun w => mksQ N A h8 w)
  have hmk2 := Lib.hid (fun m w => mksQ N (pwP N A m) (pwP_len N A h8 h4 m) w)
  have hpr := Lib.hid (fun m w => prodPI_nat N (pwP N A m) A (pwP_len N A h8 h4 m) h8 (pwP_nums N A hA h4 m) hA w h1 h4)
  have hpl := Lib.hid (pwP_len N A h8 h4)
  have hix := Lib.hid (fun m base g cap w' (hm : m < M) (hR : RowQ w' base (.slice (some ⟨g, 0, none⟩) m cap) (pls N A m)) => idxP_lt N A h8 h4 M hM hdis m hm base g cap w' hR)
  have hiy := Lib.hid (fun base g cap w' (hR : RowQ w' base (.slice (some ⟨g, 0, none⟩) M cap) (pls N A M)) => idxP_eq N A h8 h4 M I hIM hM hq hdis base g cap w' hR)
  have hrd := Lib.hid (fun (x : World) base m g cap (h : RowQ x base (.slice (some ⟨g, 0, none⟩) m cap) (pls N A m)) k hk => pls_read h h8 h4 k hk)
  have hp8 := Lib.hid (pls_8 N A h8 h4)
  have hlt8 : ∀ k, (dcells N (pwP N A k)).toList.length = 9 := fun k => dl9 (pwP_len N A h8 h4 k)
  have h9 := Lib.hid hlt8
  clear h8 hb hd hq hdis hlt8
  go_enter Try.func10, Try.ntmps10
  go_upto_region 4 with (first
    | (refine wpList_load_row rfl 31 _ rfl _ rfl 31 _ (0, 0) _ (Own.new w _ _) Try.underlying31 rfl (rowP (d9 _ _ (hl.out))) ?_)
    | (go_at_call 30; ((with_reducible refine (hc.out _).mono ?_); rintro e w1 ⟨rfl, hB1⟩; have hO1 : Own w1 w.heap.size (dcells N A) 31 := (Own.new w _ _).below hB1 (by simp)))
    | (refine wpList_load_row rfl 31 _ rfl _ rfl 31 _ (0, 0) _ (hO1) Try.underlying31 rfl (rowP (d9 _ _ (hl.out))) ?_)
    | (refine wpList_mksl rfl 55 (.tmp 11) rfl (.agg (dcells N A)) (.slice (some ⟨w1.heap.size, 0, none⟩) 1 1) rfl (hmk.out w1) ?_))
  have b1 : Below w.heap.size w w1 := ((Below.refl _ w).alloc (Nat.le_refl _) _).trans (hB1.mono (by simp))
  have nR : RowQ (w1.alloc (.cells (dcells N A) 31)) (w.heap.size + 1) (.slice (some ⟨w1.heap.size, 0, none⟩) 1 1) (pls N A 1) := RowQ.one w1 (w.heap.size + 1) N A hl.out (by have := hB1.size; simpa using this)
  have nO : Own (w1.alloc (.cells (dcells N A) 31)) w.heap.size (dcells N A) 31 := hO1.alloc _
  have nB : Below w.heap.size w (w1.alloc (.cells (dcells N A) 31)) := b1.alloc b1.size _
  generalize w1.alloc (.cells (dcells N A) 31) = W at *
  clear hB1 hO1 b1 hc hmk
  go_loopw [4] (fun v wr => ∃ m g cap : Nat, 1 ≤ m ∧ m ≤ M ∧ v = .slice (some ⟨g, 0, none⟩) m cap ∧ RowQ wr (w.heap.size + 1) (.slice (some ⟨g, 0, none⟩) m cap) (pls N A m) ∧ Own wr w.heap.size (dcells N A) 31 ∧ Below w.heap.size w wr) (fun v _ => M + 1 - lenV v)
  case atStart => exact ⟨1, _, _, Nat.le_refl _, by omega, rfl, nR, nO, nB⟩
  case round =>
    clear nR nO nB
    obtain ⟨m, g, cap, hm1, hmM, rfl, hR, hO, hB⟩ := hrel
    obtain ⟨k, rfl⟩ : ∃ k, m = k + 1 := ⟨m - 1, by omega⟩
    have hprk := Lib.hid (hpr.out k)
    have hnx : prP N (pwP N A k) A = pwP N A (k + 1) := rfl
    rw [hnx] at hprk
    have hpn := Lib.hid (hpl.out (k + 1))
    have hpk := Lib.hid (hpl.out k)
    have hrk := Lib.hid (fun x h => hrd.out x (w.heap.size + 1) (k + 1) g cap h k (by omega))
    have h9k := Lib.hid (h9.out k)
    have hmkk := Lib.hid (hmk2.out (k + 1))
    have hix1 := Lib.hid (fun w' h hR => hix.out (k + 1) (w.heap.size + 1) g cap w' h hR)
    have hiy1 := Lib.hid (show k + 1 = M → ∀ w', RowQ w' (w.heap.size + 1) (.slice (some ⟨g, 0, none⟩) (k + 1) cap) (pls N A (k + 1)) → Calls Try.prog 32 #[.slice (some ⟨g, 0, none⟩) (k + 1) cap, .agg (dcells N (pwP N A (k + 1)))] w' fun e w'' => e = .returned (.int .i64 (I : Int)) ∧ Below w'.heap.size w' w'' from fun h w' hR => by subst h; exact hiy.out (w.heap.size + 1) g cap w' hR)
    have hsu := Lib.hid (pls_succ N A (k + 1))
    have hrl : (pls N A (k + 1)).length < 33554432 := by rw [pls_len]; omega
    obtain ⟨c, hc⟩ : ∃ c : Int, ((prC N (pwP N A k) A : Nat) : Int) = c := ⟨_, rfl⟩
    rw [hc] at hprk
    obtain ⟨pk, hpkk⟩ : ∃ x, pwP N A k = x := ⟨_, rfl⟩
    rw [hpkk] at hprk hpk hrk h9k
    obtain ⟨nx, hnxx⟩ : ∃ x, pwP N A (k + 1) = x := ⟨_, rfl⟩
    rw [hnxx] at hprk hpn hmkk hix1 hiy1 hsu
    have kI : (k : Int) < ((k + 1 : Nat) : Int) := by omega
    have kE : ((k + 1 : Nat) : Int) - 1 = (k : Int) := by omega
    have hp9 := Lib.hid (hp8.out (k + 1 + 1))
    clear hix hiy hpr hpl hrd hp8 hmk2 h9 hnx hc hpkk hnxx
    go_upto_region 4 with fail
    obtain ⟨wd, hwd⟩ : ∃ x, ({ wr with drawn := wr.drawn + 1 } : World) = x := ⟨_, rfl⟩
    have hOd : Own wd w.heap.size (dcells N A) 31 := by rw [← hwd]; exact hO
    have hRd : RowQ wd (w.heap.size + 1) (.slice (some ⟨g, 0, none⟩) (k + 1) cap) (pls N A (k + 1)) := by rw [← hwd]; exact hR
    have hBd : Below w.heap.size w wd := by rw [← hwd]; exact hB.drew
    have l2 := hOd.lt
    clear hO hR hB
    refine wp_region_facts (by kernel_rfl) (by kernel_rfl) (fun a w' => ∃ x5 x6 x13 x14 x15 x16 x17 x18 x19 x20 x21 x22 x23 : Value, a = ⟨List.toArray [.agg (dcells N A), .pointer (some ⟨w.heap.size, 0, none⟩), u2, u3, .slice (some ⟨g, 0, none⟩) (k + 1) cap, x5, x6, u7, .agg (dcells N A), .bool true, .bool false, .agg (dcells N A), .slice (some ⟨w1.heap.size, 0, none⟩) 1 1, x13, x14, x15, x16, x17, x18, x19, x20, x21, x22, x23, u24, u25, u26, u27, u28, u29, u30, u31, u32, u33, u34, u35, u36, u37, u38, u39], []⟩ ∧ Below wd.heap.size wd w') (fun j a w' => match j with | 0 => sl a 14 = .slice (some ⟨g, 0, none⟩) (k + 1) cap | 1 => sl a 15 = .slice (some ⟨g, 0, none⟩) (k + 1) cap | 2 => sl a 16 = .int .i64 ((k : Int) + 1) | 3 => sl a 17 = .int .i64 k | 4 => sl a 18 = .pointer (some ⟨g, k * 9, none⟩) | 5 => sl a 19 = .agg (dcells N pk) | 6 => sl a 20 = .agg (dcells N A) | 7 => sl a 21 = .tuple #[.agg (dcells N nx), .int .i64 c] | 8 => sl a 13 = .tuple #[.agg (dcells N nx), .int .i64 c] | 9 => sl a 22 = .agg (dcells N nx) | 10 => sl a 23 = .int .i64 c | 11 => ∃ gg, wd.heap.size ≤ gg ∧ sl a 5 = .pointer (some ⟨gg, 0, none⟩) ∧ ∃ cs, cs.size = 9 ∧ Own w' gg cs 31 | 12 => ∃ gg, wd.heap.size ≤ gg ∧ sl a 5 = .pointer (some ⟨gg, 0, none⟩) ∧ Own w' gg (dcells N nx) 31 | 13 => sl a 6 = .int .i64 c | _ => True) ⟨_, _, _, _, _, _, _, _, _, _, _, _, _, rfl, by rw [← hwd]; exact Below.refl _ _⟩ ?_ ?_
    · refine (AllOps.cons ?_ (AllOps.cons ?_ (AllOps.cons ?_ (AllOps.cons ?_ (AllOps.cons ?_ (AllOps.cons ?_ (AllOps.cons ?_ (AllOps.cons ?_ (AllOps.cons ?_ (AllOps.cons ?_ (AllOps.cons ?_ (AllOps.cons ?_ (AllOps.cons ?_ (AllOps.cons ?_ AllOps.nil))))))))))))))
      · rintro a w0 ⟨x5, x6, x13, x14, x15, x16, x17, x18, x19, x20, x21, x22, x23, rfl, hB⟩ hd K hK
        go_wp2
        refine hK _ _ ⟨_, _, _, _, _, _, _, _, _, _, _, _, _, rfl, hB⟩ (rfl) ?_
        rintro (_|_|_|_|_|_|_|_|_|_|_|_|_|_|_) hj hn h <;> first | exact h | exact absurd rfl hj | exact waits_no hn (by kernel_rfl)
      · rintro a w0 ⟨x5, x6, x13, x14, x15, x16, x17, x18, x19, x20, x21, x22, x23, rfl, hB⟩ hd K hK
        go_wp2
        refine hK _ _ ⟨_, _, _, _, _, _, _, _, _, _, _, _, _, rfl, hB⟩ (rfl) ?_
        rintro (_|_|_|_|_|_|_|_|_|_|_|_|_|_|_) hj hn h <;> first | exact h | exact absurd rfl hj | exact waits_no hn (by kernel_rfl)
      · rintro a w0 ⟨x5, x6, x13, x14, x15, x16, x17, x18, x19, x20, x21, x22, x23, rfl, hB⟩ hd K hK
        have d0 : x15 = _ := hd 1 (by kernel_rfl)
        subst d0
        go_wp2
        refine hK _ _ ⟨_, _, _, _, _, _, _, _, _, _, _, _, _, rfl, hB⟩ (rfl) ?_
        rintro (_|_|_|_|_|_|_|_|_|_|_|_|_|_|_) hj hn h <;> first | exact h | exact absurd rfl hj | exact waits_no hn (by kernel_rfl)
      · rintro a w0 ⟨x5, x6, x13, x14, x15, x16, x17, x18, x19, x20, x21, x22, x23, rfl, hB⟩ hd K hK
        have d0 : x16 = _ := hd 2 (by kernel_rfl)
        subst d0
        go_wp2
        refine hK _ _ ⟨_, _, _, _, _, _, _, _, _, _, _, _, _, rfl, hB⟩ (rfl) ?_
        rintro (_|_|_|_|_|_|_|_|_|_|_|_|_|_|_) hj hn h <;> first | exact h | exact absurd rfl hj | exact waits_no hn (by kernel_rfl)
      · rintro a w0 ⟨x5, x6, x13, x14, x15, x16, x17, x18, x19, x20, x21, x22, x23, rfl, hB⟩ hd K hK
        have d0 : x14 = _ := hd 0 (by kernel_rfl)
        have d1 : x17 = _ := hd 3 (by kernel_rfl)
        subst d0 d1
        go_wp2
        refine hK _ _ ⟨_, _, _, _, _, _, _, _, _, _, _, _, _, rfl, hB⟩ (rfl) ?_
        rintro (_|_|_|_|_|_|_|_|_|_|_|_|_|_|_) hj hn h <;> first | exact h | exact absurd rfl hj | exact waits_no hn (by kernel_rfl)
      · rintro a w0 ⟨x5, x6, x13, x14, x15, x16, x17, x18, x19, x20, x21, x22, x23, rfl, hB⟩ hd K hK
        have d0 : x18 = _ := hd 4 (by kernel_rfl)
        subst d0
        go_wp2_with (first | (refine wpList_load_at rfl 31 (.tmp 18) rfl ⟨g, k * 9, none⟩ rfl (dcells N pk).toList _ (hrk.out w0 (hRd.below hB (Nat.le_refl _))) Try.underlying31 rfl (by rw [h9k.out]; kernel_rfl) ?_))
        refine hK _ _ ⟨_, _, _, _, _, _, _, _, _, _, _, _, _, rfl, hB⟩ (rfl) ?_
        rintro (_|_|_|_|_|_|_|_|_|_|_|_|_|_|_) hj hn h <;> first | exact h | exact absurd rfl hj | exact waits_no hn (by kernel_rfl)
      · rintro a w0 ⟨x5, x6, x13, x14, x15, x16, x17, x18, x19, x20, x21, x22, x23, rfl, hB⟩ hd K hK
        go_wp2_with (first | (refine wpList_load_row rfl 31 _ rfl _ rfl 31 _ (0, 0) _ (hOd.below hB l2) Try.underlying31 rfl (rowP (d9 _ _ (hl.out))) ?_))
        refine hK _ _ ⟨_, _, _, _, _, _, _, _, _, _, _, _, _, rfl, hB⟩ (rfl) ?_
        rintro (_|_|_|_|_|_|_|_|_|_|_|_|_|_|_) hj hn h <;> first | exact h | exact absurd rfl hj | exact waits_no hn (by kernel_rfl)
      · rintro a w0 ⟨x5, x6, x13, x14, x15, x16, x17, x18, x19, x20, x21, x22, x23, rfl, hB⟩ hd K hK
        have d0 : x19 = _ := hd 5 (by kernel_rfl)
        have d1 : x20 = _ := hd 6 (by kernel_rfl)
        subst d0 d1
        go_wp2_with (first | (go_at_call 31; ((with_reducible refine (hprk.out _).mono ?_); rintro e w2 ⟨rfl, hB2⟩)))
        refine hK _ _ ⟨_, _, _, _, _, _, _, _, _, _, _, _, _, rfl, hB.trans (hB2.mono hB.size)⟩ (rfl) ?_
        rintro (_|_|_|_|_|_|_|_|_|_|_|_|_|_|_) hj hn h <;> first | exact h | exact absurd rfl hj | (obtain ⟨gg, hg, e, cs, hcs, hO⟩ := h; exact ⟨gg, hg, e, cs, hcs, hO.below hB2 hO.lt⟩) | (obtain ⟨gg, hg, e, hO⟩ := h; exact ⟨gg, hg, e, hO.below hB2 hO.lt⟩) | exact waits_no hn (by kernel_rfl)
      · rintro a w0 ⟨x5, x6, x13, x14, x15, x16, x17, x18, x19, x20, x21, x22, x23, rfl, hB⟩ hd K hK
        have d0 : x21 = _ := hd 7 (by kernel_rfl)
        subst d0
        go_wp2
        refine hK _ _ ⟨_, _, _, _, _, _, _, _, _, _, _, _, _, rfl, hB⟩ (rfl) ?_
        rintro (_|_|_|_|_|_|_|_|_|_|_|_|_|_|_) hj hn h <;> first | exact h | exact absurd rfl hj | exact waits_no hn (by kernel_rfl)
      · rintro a w0 ⟨x5, x6, x13, x14, x15, x16, x17, x18, x19, x20, x21, x22, x23, rfl, hB⟩ hd K hK
        have d0 : x13 = _ := hd 8 (by kernel_rfl)
        subst d0
        go_wp2
        refine hK _ _ ⟨_, _, _, _, _, _, _, _, _, _, _, _, _, rfl, hB⟩ (rfl) ?_
        rintro (_|_|_|_|_|_|_|_|_|_|_|_|_|_|_) hj hn h <;> first | exact h | exact absurd rfl hj | exact waits_no hn (by kernel_rfl)
      · rintro a w0 ⟨x5, x6, x13, x14, x15, x16, x17, x18, x19, x20, x21, x22, x23, rfl, hB⟩ hd K hK
        have d0 : x13 = _ := hd 8 (by kernel_rfl)
        subst d0
        go_wp2
        refine hK _ _ ⟨_, _, _, _, _, _, _, _, _, _, _, _, _, rfl, hB⟩ (rfl) ?_
        rintro (_|_|_|_|_|_|_|_|_|_|_|_|_|_|_) hj hn h <;> first | exact h | exact absurd rfl hj | exact waits_no hn (by kernel_rfl)
      · rintro a w0 ⟨x5, x6, x13, x14, x15, x16, x17, x18, x19, x20, x21, x22, x23, rfl, hB⟩ hd K hK
        go_wp2
        refine hK _ _ ⟨_, _, _, _, _, _, _, _, _, _, _, _, _, rfl, hB.alloc hB.size _⟩ (⟨_, hB.size, rfl, _, rfl, Own.new _ _ _⟩) ?_
        rintro (_|_|_|_|_|_|_|_|_|_|_|_|_|_|_) hj hn h <;> first | exact h | exact absurd rfl hj | exact waits_no hn (by kernel_rfl)
      · rintro a w0 ⟨x5, x6, x13, x14, x15, x16, x17, x18, x19, x20, x21, x22, x23, rfl, hB⟩ hd K hK
        have d0 : x22 = _ := hd 9 (by kernel_rfl)
        have d8 := hd 11 (by kernel_rfl)
        obtain ⟨gg, hg, e, cs, hcs, hO⟩ := d8
        have e : x5 = _ := e
        subst e
        subst d0
        go_wp2_with (first | (refine wpList_store_own rfl 31 _ _ rfl _ _ rfl rfl 31 _ (hO) (rowP (d9 _ _ (hpn.out))) (by rw [hcs, d9 _ _ hpn.out]) (dcells_one _ _) ?_; intro w2 hO2 hN2))
        refine hK _ _ ⟨_, _, _, _, _, _, _, _, _, _, _, _, _, rfl, hB.trans (hN2.below.mono hg)⟩ (⟨gg, hg, rfl, hO2⟩) ?_
        rintro (_|_|_|_|_|_|_|_|_|_|_|_|_|_|_) hj hn h <;> first | exact h | exact absurd rfl hj | exact ⟨gg, hg, rfl, _, d9 _ _ hpn.out, hO2⟩ | exact waits_no hn (by kernel_rfl)
      · rintro a w0 ⟨x5, x6, x13, x14, x15, x16, x17, x18, x19, x20, x21, x22, x23, rfl, hB⟩ hd K hK
        have d0 : x23 = _ := hd 10 (by kernel_rfl)
        subst d0
        go_wp2
        refine hK _ _ ⟨_, _, _, _, _, _, _, _, _, _, _, _, _, rfl, hB⟩ (rfl) ?_
        rintro (_|_|_|_|_|_|_|_|_|_|_|_|_|_|_) hj hn h <;> first | exact h | exact absurd rfl hj | exact waits_no hn (by kernel_rfl)
    · rintro a w1 ⟨x5, x6, x13, x14, x15, x16, x17, x18, x19, x20, x21, x22, x23, rfl, hB⟩ hF
      have e6 : x6 = _ := hF 13 (by decide)
      have d9' := hF 12 (by decide)
      obtain ⟨gb, hg, e5, hOg⟩ := d9'
      have e5 : x5 = _ := e5
      subst e6 e5
      have nO := hOd.below hB l2
      have nR := hRd.below hB (Nat.le_refl _)
      have nB := hBd.trans (hB.mono hBd.size)
      clear hF hB hOd hRd hBd hwd hprk hrk h9k
      by_cases hlt : k + 1 < M
      · have hx := Lib.hid (fun w' hR => hix1.out w' hlt hR)
        clear hix1 hiy1
        go_wp2_with (first
          | (refine wpList_load_row rfl 31 _ rfl _ rfl 31 _ (0, 0) _ (hOg) Try.underlying31 rfl (rowP (d9 _ _ (hpn.out))) ?_)
          | (go_at_call 32; ((with_reducible refine (hx.out w1 nR).mono ?_); rintro e w4 ⟨rfl, hB4⟩); have hOg4 := hOg.below hB4 hOg.lt; have nR4 := nR.below hB4 (Nat.le_refl _); have nO4 := nO.below hB4 nO.lt; have b4 := nB.trans (hB4.mono nB.size))
          | (refine wpList_load_row rfl 31 _ rfl _ rfl 31 _ (0, 0) _ (hOg4) Try.underlying31 rfl (rowP (d9 _ _ (hpn.out))) ?_)
          | (refine wpList_mksl rfl 55 (.tmp 37) rfl (.agg (dcells N nx)) (.slice (some ⟨w4.heap.size, 0, none⟩) 1 1) rfl (hmkk.out w4) ?_)
          | (refine wpList_append_rowQ rfl (.tmp 36) (.tmp 38) rfl (w.heap.size + 1) _ (pls N A (k + 1)) N nx hpn.out rfl (nR4.alloc _) w4.heap.size 1 rfl (Own.new _ _ _) hrl (by have := b4.size; have := nO4.lt; simp; omega) ?_; intro v5 w5 hR5 hG5 hA5))
        have b5 : Below w.heap.size w w5 := (b4.alloc b4.size _).grown hG5 (by have := b4.size; simp; omega) (fun j e => Nat.le_of_succ_le (nR4.own j e).1)
        have nO5 : Own w5 w.heap.size (dcells N A) 31 := (hG5.block w.heap.size (by have := nO4.lt; simp; omega) (fun e => by have := (nR4.own _ e.symm).1; omega)).trans (nO4.alloc _)
        rw [← hsu.out] at hR5
        obtain ⟨g5, c5, rfl, hg5, hgl5⟩ := hR5.at hp9.out (by rw [pls_len]; omega)
        rw [pls_len] at hR5 ⊢
        go_roundw
        case rel => exact ⟨k + 1 + 1, g5, c5, by omega, by omega, rfl, hR5, nO5, b5⟩
        case measure => simp [lenV]; omega
      · have hx := Lib.hid (hiy1.out (by omega))
        have hm2 := fun a b => mk2i a b
        obtain rfl : M = k + 1 := by omega
        clear hix1 hiy1
        go_wp2_with (first
          | (refine wpList_load_row rfl 31 _ rfl _ rfl 31 _ (0, 0) _ (hOg) Try.underlying31 rfl (rowP (d9 _ _ (hpn.out))) ?_)
          | (go_at_call 32; ((with_reducible refine (hx.out w1 nR).mono ?_); rintro e w4 ⟨rfl, hB4⟩); have b4 := nB.trans (hB4.mono nB.size)))
        go_ret2
        rw [show ((k + 1 : Nat) : Int) - (I : Int) = (k : Int) + 1 - (I : Int) by omega]
        exact ⟨some ⟨w4.heap.size, 0, none⟩, 2, rfl, Mn.new b4.size (Own.new w4 _ _), b4.alloc b4.size _⟩
end Go.Proofs.Ytlgdeciikliihaa
