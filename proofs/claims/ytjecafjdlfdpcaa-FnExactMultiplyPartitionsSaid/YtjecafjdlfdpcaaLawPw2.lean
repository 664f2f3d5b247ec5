/- The walks of the laws over two partitions. -/
import Derived.Test.YtjecafjdlfdpcaaLawPw
import Derived.Test.YtjecafjdlfdpcaaInv
namespace Go.Proofs.Ytjecafjdlfdpcaa
open Go.RowKit
set_option linter.unusedVariables false
set_option linter.unusedVariables false
set_option maxRecDepth 100000 in
set_option maxHeartbeats 2000000 in
theorem UnionPartition_walk (n1 n2 : Int) (ms es : List Int) (hms : ms.length = 8) (hes : es.length = 8) (w : World) (m c : Int) (rs : List Int) (hr : rs.length = 8)
    (hS : ∀ w, Calls Try.prog 25 #[.agg (dcells n1 ms), .agg (dcells n2 es)] w fun e w' => e = .returned (.tuple #[.agg (dcells m rs), .int .i64 c]) ∧ Below w.heap.size w w')
    (hI : ∀ w, Calls Try.prog 26 #[.agg (dcells n1 ms), .agg (dcells n2 es)] w fun e w' => e = .returned (.tuple #[.agg (dcells m rs), .int .i64 c]) ∧ Below w.heap.size w w') :
    Calls Try.prog 8 #[.agg (dcells n1 ms), .agg (dcells n2 es)] w fun e w' => e = .returned (.bool true) ∧ Below w.heap.size w w' := by
  have hl := Lib.hid hms
  have hl2 := Lib.hid hes
  have hh := Lib.hid hr
  have hS' := Lib.hid hS
  have hI' := Lib.hid hI
  clear hms hes hr hS hI
  go_enter Try.func8, Try.ntmps8
  go_wp2
  have hA1 : Own (((w.alloc (.cells (dcells n1 ms) 24)).alloc (.cells (dcells n2 es) 24)).drew) w.heap.size (dcells n1 ms) 24 := (Own.new _ _ _).alloc _
  have hA2 : Own (((w.alloc (.cells (dcells n1 ms) 24)).alloc (.cells (dcells n2 es) 24)).drew) (w.heap.size + 1) (dcells n2 es) 24 := Own.at _ _ _ (by simp)
  have b1 : Below w.heap.size w (((w.alloc (.cells (dcells n1 ms) 24)).alloc (.cells (dcells n2 es) 24)).drew) := (((Below.refl _ _).alloc (Nat.le_refl _) _).alloc (by simp) _).drew
  obtain ⟨wd, hwd⟩ : ∃ wd, (((w.alloc (.cells (dcells n1 ms) 24)).alloc (.cells (dcells n2 es) 24)).drew) = wd := ⟨_, rfl⟩
  rw [hwd] at hA1 hA2 b1
  have hlt1 := hA1.lt
  have hlt2 := hA2.lt
  refine wp_region_facts (by kernel_rfl) (by kernel_rfl) (fun a w' => ∃ x5 x6 x9 x10 x11 x12 x13 x14 x15 x16 : Value, a = ⟨List.toArray [.agg (dcells n1 ms), .agg (dcells n2 es), .pointer (some ⟨w.heap.size, 0, none⟩), .pointer (some ⟨w.heap.size + 1, 0, none⟩), .bool false, x5, x6, undef, undef, x9, x10, x11, x12, x13, x14, x15, x16, undef, undef, undef, undef, undef, undef, undef, undef, undef, undef, undef, undef, undef, undef, undef, undef, undef], []⟩ ∧ Below wd.heap.size wd w') (fun j a w' => match j with | 0 => sl a 10 = .agg (dcells n1 ms) | 1 => sl a 11 = .agg (dcells n1 ms) | 2 => sl a 12 = .agg (dcells n2 es) | 3 => sl a 13 = .agg (dcells n2 es) | 4 => sl a 14 = .tuple #[.agg (dcells m rs), .int .i64 c] | 5 => sl a 9 = .tuple #[.agg (dcells m rs), .int .i64 c] | 6 => sl a 15 = .agg (dcells m rs) | 7 => sl a 16 = .int .i64 c | 8 => ∃ g, wd.heap.size ≤ g ∧ sl a 5 = .pointer (some ⟨g, 0, none⟩) ∧ ∃ cs, cs.size = 9 ∧ Own w' g cs 26 | 9 => ∃ g, wd.heap.size ≤ g ∧ sl a 5 = .pointer (some ⟨g, 0, none⟩) ∧ Own w' g (dcells m rs) 26 | 10 => sl a 6 = .int .i64 c | _ => True) ⟨_, _, _, _, _, _, _, _, _, _, rfl, by rw [← hwd]; exact Below.refl _ _⟩ ?_ ?_
  · refine (AllOps.cons ?_ (AllOps.cons ?_ (AllOps.cons ?_ (AllOps.cons ?_ (AllOps.cons ?_ (AllOps.cons ?_ (AllOps.cons ?_ (AllOps.cons ?_ (AllOps.cons ?_ (AllOps.cons ?_ (AllOps.cons ?_ AllOps.nil)))))))))))
    · rintro a w0 ⟨x5, x6, x9, x10, x11, x12, x13, x14, x15, x16, rfl, hB⟩ hd K hK
      go_wp2_with (first | (refine wpList_load_row rfl 24 _ rfl _ rfl 24 _ (0, 0) _ (hA1.below hB hlt1) Try.underlying24 rfl (rowLP (d9 _ _ (hl.out))) ?_))
      refine hK _ _ ⟨_, _, _, _, _, _, _, _, _, _, rfl, hB⟩ (rfl) ?_
      rintro (_|_|_|_|_|_|_|_|_|_|_|_) hj hn h <;> first | exact h | exact absurd rfl hj | exact waits_no hn (by kernel_rfl)
    · rintro a w0 ⟨x5, x6, x9, x10, x11, x12, x13, x14, x15, x16, rfl, hB⟩ hd K hK
      have d0 : x10 = _ := hd 0 (by kernel_rfl)
      subst d0
      go_wp2_with (first | (go_at_call 14; ((with_reducible refine (toP_any n1 ms hl.out _).mono ?_); rintro e w2 ⟨rfl, hB2⟩)))
      refine hK _ _ ⟨_, _, _, _, _, _, _, _, _, _, rfl, hB.trans (hB2.mono hB.size)⟩ (rfl) ?_
      rintro (_|_|_|_|_|_|_|_|_|_|_|_) hj hn h <;> first | exact h | exact absurd rfl hj | (obtain ⟨g, hg, e, cs, hcs, hO⟩ := h; exact ⟨g, hg, e, cs, hcs, hO.below hB2 hO.lt⟩) | (obtain ⟨g, hg, e, hO⟩ := h; exact ⟨g, hg, e, hO.below hB2 hO.lt⟩) | exact waits_no hn (by kernel_rfl)
    · rintro a w0 ⟨x5, x6, x9, x10, x11, x12, x13, x14, x15, x16, rfl, hB⟩ hd K hK
      go_wp2_with (first | (refine wpList_load_row rfl 24 _ rfl _ rfl 24 _ (0, 0) _ (hA2.below hB hlt2) Try.underlying24 rfl (rowLP (d9 _ _ (hl2.out))) ?_))
      refine hK _ _ ⟨_, _, _, _, _, _, _, _, _, _, rfl, hB⟩ (rfl) ?_
      rintro (_|_|_|_|_|_|_|_|_|_|_|_) hj hn h <;> first | exact h | exact absurd rfl hj | exact waits_no hn (by kernel_rfl)
    · rintro a w0 ⟨x5, x6, x9, x10, x11, x12, x13, x14, x15, x16, rfl, hB⟩ hd K hK
      have d0 : x12 = _ := hd 2 (by kernel_rfl)
      subst d0
      go_wp2_with (first | (go_at_call 14; ((with_reducible refine (toP_any n2 es hl2.out _).mono ?_); rintro e w2 ⟨rfl, hB2⟩)))
      refine hK _ _ ⟨_, _, _, _, _, _, _, _, _, _, rfl, hB.trans (hB2.mono hB.size)⟩ (rfl) ?_
      rintro (_|_|_|_|_|_|_|_|_|_|_|_) hj hn h <;> first | exact h | exact absurd rfl hj | (obtain ⟨g, hg, e, cs, hcs, hO⟩ := h; exact ⟨g, hg, e, cs, hcs, hO.below hB2 hO.lt⟩) | (obtain ⟨g, hg, e, hO⟩ := h; exact ⟨g, hg, e, hO.below hB2 hO.lt⟩) | exact waits_no hn (by kernel_rfl)
    · rintro a w0 ⟨x5, x6, x9, x10, x11, x12, x13, x14, x15, x16, rfl, hB⟩ hd K hK
      have d0 : x11 = _ := hd 1 (by kernel_rfl)
      have d1 : x13 = _ := hd 3 (by kernel_rfl)
      subst d0 d1
      go_wp2_with (first | (go_at_call 25; ((with_reducible refine (hS'.out _).mono ?_); rintro e w2 ⟨rfl, hB2⟩)))
      refine hK _ _ ⟨_, _, _, _, _, _, _, _, _, _, rfl, hB.trans (hB2.mono hB.size)⟩ (rfl) ?_
      rintro (_|_|_|_|_|_|_|_|_|_|_|_) hj hn h <;> first | exact h | exact absurd rfl hj | (obtain ⟨g, hg, e, cs, hcs, hO⟩ := h; exact ⟨g, hg, e, cs, hcs, hO.below hB2 hO.lt⟩) | (obtain ⟨g, hg, e, hO⟩ := h; exact ⟨g, hg, e, hO.below hB2 hO.lt⟩) | exact waits_no hn (by kernel_rfl)
    · rintro a w0 ⟨x5, x6, x9, x10, x11, x12, x13, x14, x15, x16, rfl, hB⟩ hd K hK
      have d0 : x14 = _ := hd 4 (by kernel_rfl)
      subst d0
      go_wp2
      refine hK _ _ ⟨_, _, _, _, _, _, _, _, _, _, rfl, hB⟩ (rfl) ?_
      rintro (_|_|_|_|_|_|_|_|_|_|_|_) hj hn h <;> first | exact h | exact absurd rfl hj | exact waits_no hn (by kernel_rfl)
    · rintro a w0 ⟨x5, x6, x9, x10, x11, x12, x13, x14, x15, x16, rfl, hB⟩ hd K hK
      have d0 : x9 = _ := hd 5 (by kernel_rfl)
      subst d0
      go_wp2
      refine hK _ _ ⟨_, _, _, _, _, _, _, _, _, _, rfl, hB⟩ (rfl) ?_
      rintro (_|_|_|_|_|_|_|_|_|_|_|_) hj hn h <;> first | exact h | exact absurd rfl hj | exact waits_no hn (by kernel_rfl)
    · rintro a w0 ⟨x5, x6, x9, x10, x11, x12, x13, x14, x15, x16, rfl, hB⟩ hd K hK
      have d0 : x9 = _ := hd 5 (by kernel_rfl)
      subst d0
      go_wp2
      refine hK _ _ ⟨_, _, _, _, _, _, _, _, _, _, rfl, hB⟩ (rfl) ?_
      rintro (_|_|_|_|_|_|_|_|_|_|_|_) hj hn h <;> first | exact h | exact absurd rfl hj | exact waits_no hn (by kernel_rfl)
    · rintro a w0 ⟨x5, x6, x9, x10, x11, x12, x13, x14, x15, x16, rfl, hB⟩ hd K hK
      go_wp2
      refine hK _ _ ⟨_, _, _, _, _, _, _, _, _, _, rfl, hB.alloc hB.size _⟩ (⟨_, hB.size, rfl, _, rfl, Own.new _ _ _⟩) ?_
      rintro (_|_|_|_|_|_|_|_|_|_|_|_) hj hn h <;> first | exact h | exact absurd rfl hj | exact waits_no hn (by kernel_rfl)
    · rintro a w0 ⟨x5, x6, x9, x10, x11, x12, x13, x14, x15, x16, rfl, hB⟩ hd K hK
      have d0 : x15 = _ := hd 6 (by kernel_rfl)
      have d8 := hd 8 (by kernel_rfl)
      obtain ⟨g, hg, e, cs, hcs, hO⟩ := d8
      have e : x5 = _ := e
      subst d0 e
      go_wp2_with (first | (refine wpList_store_own rfl 26 _ _ rfl _ _ rfl rfl 26 _ (hO) (rowP (d9 _ _ (hh.out))) (by rw [hcs, d9 _ _ hh.out]) (dcells_one _ _) ?_; intro w2 hO2 hN2))
      refine hK _ _ ⟨_, _, _, _, _, _, _, _, _, _, rfl, hB.trans (hN2.below.mono hg)⟩ (⟨g, hg, rfl, hO2⟩) ?_
      rintro (_|_|_|_|_|_|_|_|_|_|_|_) hj hn h <;> first | exact h | exact absurd rfl hj | exact ⟨g, hg, rfl, _, d9 _ _ hh.out, hO2⟩ | exact waits_no hn (by kernel_rfl)
    · rintro a w0 ⟨x5, x6, x9, x10, x11, x12, x13, x14, x15, x16, rfl, hB⟩ hd K hK
      have d0 : x16 = _ := hd 7 (by kernel_rfl)
      subst d0
      go_wp2
      refine hK _ _ ⟨_, _, _, _, _, _, _, _, _, _, rfl, hB⟩ (rfl) ?_
      rintro (_|_|_|_|_|_|_|_|_|_|_|_) hj hn h <;> first | exact h | exact absurd rfl hj | exact waits_no hn (by kernel_rfl)
  · rintro a w1 ⟨x5, x6, x9, x10, x11, x12, x13, x14, x15, x16, rfl, hB⟩ hF
    have e0 : x6 = _ := hF 10 (by decide)
    have d9 := hF 9 (by decide)
    obtain ⟨g, hg, e, hOg⟩ := d9
    have e : x5 = _ := e
    subst e e0
    have hC1 : Own w1.drew w.heap.size (dcells n1 ms) 24 := by have := hA1.below hB hlt1; exact this
    have hC2 : Own w1.drew (w.heap.size + 1) (dcells n2 es) 24 := by have := hA2.below hB hlt2; exact this
    have hG1 : Own w1.drew g (dcells m rs) 26 := hOg
    have b2 : Below w.heap.size w w1.drew := (b1.trans (hB.mono b1.size)).drew
    clear hwd
    obtain ⟨we, hwe⟩ : ∃ we, w1.drew = we := ⟨_, rfl⟩
    rw [hwe] at hC1 hC2 hG1 b2
    have hlt3 := hC1.lt
    have hlt4 := hC2.lt
    have hlt5 := hG1.lt
    go_wp2
    refine wp_region_facts (by kernel_rfl) (by kernel_rfl) (fun a w' => ∃ x7 x8 x17 x18 x19 x20 x21 x22 x23 x24 : Value, a = ⟨List.toArray [.agg (dcells n1 ms), .agg (dcells n2 es), .pointer (some ⟨w.heap.size, 0, none⟩), .pointer (some ⟨w.heap.size + 1, 0, none⟩), .bool false, .pointer (some ⟨g, 0, none⟩), .int .i64 c, x7, x8, x9, x10, x11, x12, x13, x14, x15, x16, x17, x18, x19, x20, x21, x22, x23, x24, undef, undef, undef, undef, undef, undef, undef, undef, undef], []⟩ ∧ Below we.heap.size we w') (fun j a w' => match j with | 0 => sl a 18 = .agg (dcells n1 ms) | 1 => sl a 19 = .agg (dcells n1 ms) | 2 => sl a 20 = .agg (dcells n2 es) | 3 => sl a 21 = .agg (dcells n2 es) | 4 => sl a 22 = .tuple #[.agg (dcells m rs), .int .i64 c] | 5 => sl a 17 = .tuple #[.agg (dcells m rs), .int .i64 c] | 6 => sl a 23 = .agg (dcells m rs) | 7 => sl a 24 = .int .i64 c | 8 => ∃ g, we.heap.size ≤ g ∧ sl a 7 = .pointer (some ⟨g, 0, none⟩) ∧ ∃ cs, cs.size = 9 ∧ Own w' g cs 26 | 9 => ∃ g, we.heap.size ≤ g ∧ sl a 7 = .pointer (some ⟨g, 0, none⟩) ∧ Own w' g (dcells m rs) 26 | 10 => sl a 8 = .int .i64 c | _ => True) ⟨_, _, _, _, _, _, _, _, _, _, rfl, by rw [← hwe]; exact Below.refl _ _⟩ ?_ ?_
    · refine (AllOps.cons ?_ (AllOps.cons ?_ (AllOps.cons ?_ (AllOps.cons ?_ (AllOps.cons ?_ (AllOps.cons ?_ (AllOps.cons ?_ (AllOps.cons ?_ (AllOps.cons ?_ (AllOps.cons ?_ (AllOps.cons ?_ AllOps.nil)))))))))))
      · rintro a w0 ⟨x7, x8, x17, x18, x19, x20, x21, x22, x23, x24, rfl, hB⟩ hd K hK
        go_wp2_with (first | (refine wpList_load_row rfl 24 _ rfl _ rfl 24 _ (0, 0) _ (hC1.below hB hlt3) Try.underlying24 rfl (rowLP (d9 _ _ (hl.out))) ?_))
        refine hK _ _ ⟨_, _, _, _, _, _, _, _, _, _, rfl, hB⟩ (rfl) ?_
        rintro (_|_|_|_|_|_|_|_|_|_|_|_) hj hn h <;> first | exact h | exact absurd rfl hj | exact waits_no hn (by kernel_rfl)
      · rintro a w0 ⟨x7, x8, x17, x18, x19, x20, x21, x22, x23, x24, rfl, hB⟩ hd K hK
        have d0 : x18 = _ := hd 0 (by kernel_rfl)
        subst d0
        go_wp2_with (first | (go_at_call 14; ((with_reducible refine (toP_any n1 ms hl.out _).mono ?_); rintro e w2 ⟨rfl, hB2⟩)))
        refine hK _ _ ⟨_, _, _, _, _, _, _, _, _, _, rfl, hB.trans (hB2.mono hB.size)⟩ (rfl) ?_
        rintro (_|_|_|_|_|_|_|_|_|_|_|_) hj hn h <;> first | exact h | exact absurd rfl hj | (obtain ⟨g, hg, e, cs, hcs, hO⟩ := h; exact ⟨g, hg, e, cs, hcs, hO.below hB2 hO.lt⟩) | (obtain ⟨g, hg, e, hO⟩ := h; exact ⟨g, hg, e, hO.below hB2 hO.lt⟩) | exact waits_no hn (by kernel_rfl)
      · rintro a w0 ⟨x7, x8, x17, x18, x19, x20, x21, x22, x23, x24, rfl, hB⟩ hd K hK
        go_wp2_with (first | (refine wpList_load_row rfl 24 _ rfl _ rfl 24 _ (0, 0) _ (hC2.below hB hlt4) Try.underlying24 rfl (rowLP (d9 _ _ (hl2.out))) ?_))
        refine hK _ _ ⟨_, _, _, _, _, _, _, _, _, _, rfl, hB⟩ (rfl) ?_
        rintro (_|_|_|_|_|_|_|_|_|_|_|_) hj hn h <;> first | exact h | exact absurd rfl hj | exact waits_no hn (by kernel_rfl)
      · rintro a w0 ⟨x7, x8, x17, x18, x19, x20, x21, x22, x23, x24, rfl, hB⟩ hd K hK
        have d0 : x20 = _ := hd 2 (by kernel_rfl)
        subst d0
        go_wp2_with (first | (go_at_call 14; ((with_reducible refine (toP_any n2 es hl2.out _).mono ?_); rintro e w2 ⟨rfl, hB2⟩)))
        refine hK _ _ ⟨_, _, _, _, _, _, _, _, _, _, rfl, hB.trans (hB2.mono hB.size)⟩ (rfl) ?_
        rintro (_|_|_|_|_|_|_|_|_|_|_|_) hj hn h <;> first | exact h | exact absurd rfl hj | (obtain ⟨g, hg, e, cs, hcs, hO⟩ := h; exact ⟨g, hg, e, cs, hcs, hO.below hB2 hO.lt⟩) | (obtain ⟨g, hg, e, hO⟩ := h; exact ⟨g, hg, e, hO.below hB2 hO.lt⟩) | exact waits_no hn (by kernel_rfl)
      · rintro a w0 ⟨x7, x8, x17, x18, x19, x20, x21, x22, x23, x24, rfl, hB⟩ hd K hK
        have d0 : x19 = _ := hd 1 (by kernel_rfl)
        have d1 : x21 = _ := hd 3 (by kernel_rfl)
        subst d0 d1
        go_wp2_with (first | (go_at_call 26; ((with_reducible refine (hI'.out _).mono ?_); rintro e w2 ⟨rfl, hB2⟩)))
        refine hK _ _ ⟨_, _, _, _, _, _, _, _, _, _, rfl, hB.trans (hB2.mono hB.size)⟩ (rfl) ?_
        rintro (_|_|_|_|_|_|_|_|_|_|_|_) hj hn h <;> first | exact h | exact absurd rfl hj | (obtain ⟨g, hg, e, cs, hcs, hO⟩ := h; exact ⟨g, hg, e, cs, hcs, hO.below hB2 hO.lt⟩) | (obtain ⟨g, hg, e, hO⟩ := h; exact ⟨g, hg, e, hO.below hB2 hO.lt⟩) | exact waits_no hn (by kernel_rfl)
      · rintro a w0 ⟨x7, x8, x17, x18, x19, x20, x21, x22, x23, x24, rfl, hB⟩ hd K hK
        have d0 : x22 = _ := hd 4 (by kernel_rfl)
        subst d0
        go_wp2
        refine hK _ _ ⟨_, _, _, _, _, _, _, _, _, _, rfl, hB⟩ (rfl) ?_
        rintro (_|_|_|_|_|_|_|_|_|_|_|_) hj hn h <;> first | exact h | exact absurd rfl hj | exact waits_no hn (by kernel_rfl)
      · rintro a w0 ⟨x7, x8, x17, x18, x19, x20, x21, x22, x23, x24, rfl, hB⟩ hd K hK
        have d0 : x17 = _ := hd 5 (by kernel_rfl)
        subst d0
        go_wp2
        refine hK _ _ ⟨_, _, _, _, _, _, _, _, _, _, rfl, hB⟩ (rfl) ?_
        rintro (_|_|_|_|_|_|_|_|_|_|_|_) hj hn h <;> first | exact h | exact absurd rfl hj | exact waits_no hn (by kernel_rfl)
      · rintro a w0 ⟨x7, x8, x17, x18, x19, x20, x21, x22, x23, x24, rfl, hB⟩ hd K hK
        have d0 : x17 = _ := hd 5 (by kernel_rfl)
        subst d0
        go_wp2
        refine hK _ _ ⟨_, _, _, _, _, _, _, _, _, _, rfl, hB⟩ (rfl) ?_
        rintro (_|_|_|_|_|_|_|_|_|_|_|_) hj hn h <;> first | exact h | exact absurd rfl hj | exact waits_no hn (by kernel_rfl)
      · rintro a w0 ⟨x7, x8, x17, x18, x19, x20, x21, x22, x23, x24, rfl, hB⟩ hd K hK
        go_wp2
        refine hK _ _ ⟨_, _, _, _, _, _, _, _, _, _, rfl, hB.alloc hB.size _⟩ (⟨_, hB.size, rfl, _, rfl, Own.new _ _ _⟩) ?_
        rintro (_|_|_|_|_|_|_|_|_|_|_|_) hj hn h <;> first | exact h | exact absurd rfl hj | exact waits_no hn (by kernel_rfl)
      · rintro a w0 ⟨x7, x8, x17, x18, x19, x20, x21, x22, x23, x24, rfl, hB⟩ hd K hK
        have d0 : x23 = _ := hd 6 (by kernel_rfl)
        have d8 := hd 8 (by kernel_rfl)
        obtain ⟨g, hg, e, cs, hcs, hO⟩ := d8
        have e : x7 = _ := e
        subst d0 e
        go_wp2_with (first | (refine wpList_store_own rfl 26 _ _ rfl _ _ rfl rfl 26 _ (hO) (rowP (d9 _ _ (hh.out))) (by rw [hcs, d9 _ _ hh.out]) (dcells_one _ _) ?_; intro w2 hO2 hN2))
        refine hK _ _ ⟨_, _, _, _, _, _, _, _, _, _, rfl, hB.trans (hN2.below.mono hg)⟩ (⟨g, hg, rfl, hO2⟩) ?_
        rintro (_|_|_|_|_|_|_|_|_|_|_|_) hj hn h <;> first | exact h | exact absurd rfl hj | exact ⟨g, hg, rfl, _, d9 _ _ hh.out, hO2⟩ | exact waits_no hn (by kernel_rfl)
      · rintro a w0 ⟨x7, x8, x17, x18, x19, x20, x21, x22, x23, x24, rfl, hB⟩ hd K hK
        have d0 : x24 = _ := hd 7 (by kernel_rfl)
        subst d0
        go_wp2
        refine hK _ _ ⟨_, _, _, _, _, _, _, _, _, _, rfl, hB⟩ (rfl) ?_
        rintro (_|_|_|_|_|_|_|_|_|_|_|_) hj hn h <;> first | exact h | exact absurd rfl hj | exact waits_no hn (by kernel_rfl)
    · rintro a w2 ⟨x7, x8, x17, x18, x19, x20, x21, x22, x23, x24, rfl, hE⟩ hF
      have e0 : x8 = _ := hF 10 (by decide)
      have d9 := hF 9 (by decide)
      obtain ⟨g2, hg2, e, hOg2⟩ := d9
      have e : x7 = _ := e
      subst e e0
      have hG2 : Own w2 g (dcells m rs) 26 := hG1.below hE hlt5
      have b3 : Below w.heap.size w w2 := b2.trans (hE.mono b2.size)
      clear hwe hlt1 hlt2 hlt3 hlt4 hlt5 b1 b2 hA1 hA2 hC1 hC2 hG1 hB hE
      go_wp2_with (first
        | (refine wpList_load_row rfl 26 _ rfl _ rfl 26 _ (0, 0) _ (hOg2) Try.underlying26 rfl (rowP (d9 _ _ (hh.out))) ?_)
        | (refine wpList_load_row rfl 26 _ rfl _ rfl 26 _ (0, 0) _ (hG2) Try.underlying26 rfl (rowP (d9 _ _ (hh.out))) ?_)
        | (go_at_call 20; refine (eqP_same m rs hh.out _).mono ?_; rintro e w7 ⟨rfl, hB7⟩))
      go_ret
      exact ⟨rfl, b3.trans (hB7.mono b3.size)⟩
set_option linter.unusedVariables false
set_option maxRecDepth 100000 in
set_option maxHeartbeats 2000000 in
theorem MultiplyPartitions_walk (n1 n2 : Int) (ms es : List Int) (hms : ms.length = 8) (hes : es.length = 8) (w : World) (m c c2 : Int) (rs : List Int) (hr : rs.length = 8)
    (hS : ∀ w, Calls Try.prog 32 #[.agg (dcells n1 ms), .agg (dcells n2 es)] w fun e w' => e = .returned (.tuple #[.agg (dcells m rs), .int .i64 c, .int .i64 c2]) ∧ Below w.heap.size w w')
    (hI : ∀ w, Calls Try.prog 33 #[.agg (dcells n1 ms), .agg (dcells n2 es)] w fun e w' => e = .returned (.tuple #[.agg (dcells m rs), .int .i64 c, .int .i64 c2]) ∧ Below w.heap.size w w') :
    Calls Try.prog 11 #[.agg (dcells n1 ms), .agg (dcells n2 es)] w fun e w' => e = .returned (.bool true) ∧ Below w.heap.size w w' := by
  have hl := Lib.hid hms
  have hl2 := Lib.hid hes
  have hh := Lib.hid hr
  have hS' := Lib.hid hS
  have hI' := Lib.hid hI
  clear hms hes hr hS hI
  go_enter Try.func11, Try.ntmps11
  go_wp2
  have hA1 : Own (((w.alloc (.cells (dcells n1 ms) 24)).alloc (.cells (dcells n2 es) 24)).drew) w.heap.size (dcells n1 ms) 24 := (Own.new _ _ _).alloc _
  have hA2 : Own (((w.alloc (.cells (dcells n1 ms) 24)).alloc (.cells (dcells n2 es) 24)).drew) (w.heap.size + 1) (dcells n2 es) 24 := Own.at _ _ _ (by simp)
  have b1 : Below w.heap.size w (((w.alloc (.cells (dcells n1 ms) 24)).alloc (.cells (dcells n2 es) 24)).drew) := (((Below.refl _ _).alloc (Nat.le_refl _) _).alloc (by simp) _).drew
  obtain ⟨wd, hwd⟩ : ∃ wd, (((w.alloc (.cells (dcells n1 ms) 24)).alloc (.cells (dcells n2 es) 24)).drew) = wd := ⟨_, rfl⟩
  rw [hwd] at hA1 hA2 b1
  have hlt1 := hA1.lt
  have hlt2 := hA2.lt
  refine wp_region_facts (by kernel_rfl) (by kernel_rfl) (fun a w' => ∃ x5 x6 x7 x11 x12 x13 x14 x15 x16 x17 x18 x19 : Value, a = ⟨List.toArray [.agg (dcells n1 ms), .agg (dcells n2 es), .pointer (some ⟨w.heap.size, 0, none⟩), .pointer (some ⟨w.heap.size + 1, 0, none⟩), .bool false, x5, x6, x7, undef, undef, undef, x11, x12, x13, x14, x15, x16, x17, x18, x19, undef, undef, undef, undef, undef, undef, undef, undef, undef, undef, undef, undef, undef, undef, undef, undef, undef, undef, undef, undef, undef, undef, undef], []⟩ ∧ Below wd.heap.size wd w') (fun j a w' => match j with | 0 => sl a 12 = .agg (dcells n1 ms) | 1 => sl a 13 = .agg (dcells n1 ms) | 2 => sl a 14 = .agg (dcells n2 es) | 3 => sl a 15 = .agg (dcells n2 es) | 4 => sl a 16 = .tuple #[.agg (dcells m rs), .int .i64 c, .int .i64 c2] | 5 => sl a 11 = .tuple #[.agg (dcells m rs), .int .i64 c, .int .i64 c2] | 6 => sl a 17 = .agg (dcells m rs) | 7 => sl a 18 = .int .i64 c | 8 => sl a 19 = .int .i64 c2 | 9 => ∃ g, wd.heap.size ≤ g ∧ sl a 5 = .pointer (some ⟨g, 0, none⟩) ∧ ∃ cs, cs.size = 9 ∧ Own w' g cs 26 | 10 => ∃ g, wd.heap.size ≤ g ∧ sl a 5 = .pointer (some ⟨g, 0, none⟩) ∧ Own w' g (dcells m rs) 26 | 11 => sl a 6 = .int .i64 c | 12 => sl a 7 = .int .i64 c2 | _ => True) ⟨_, _, _, _, _, _, _, _, _, _, _, _, rfl, by rw [← hwd]; exact Below.refl _ _⟩ ?_ ?_
  · refine (AllOps.cons ?_ (AllOps.cons ?_ (AllOps.cons ?_ (AllOps.cons ?_ (AllOps.cons ?_ (AllOps.cons ?_ (AllOps.cons ?_ (AllOps.cons ?_ (AllOps.cons ?_ (AllOps.cons ?_ (AllOps.cons ?_ (AllOps.cons ?_ (AllOps.cons ?_ AllOps.nil)))))))))))))
    · rintro a w0 ⟨x5, x6, x7, x11, x12, x13, x14, x15, x16, x17, x18, x19, rfl, hB⟩ hd K hK
      go_wp2_with (first | (refine wpList_load_row rfl 24 _ rfl _ rfl 24 _ (0, 0) _ (hA1.below hB hlt1) Try.underlying24 rfl (rowLP (d9 _ _ (hl.out))) ?_))
      refine hK _ _ ⟨_, _, _, _, _, _, _, _, _, _, _, _, rfl, hB⟩ (rfl) ?_
      rintro (_|_|_|_|_|_|_|_|_|_|_|_|_|_) hj hn h <;> first | exact h | exact absurd rfl hj | exact waits_no hn (by kernel_rfl)
    · rintro a w0 ⟨x5, x6, x7, x11, x12, x13, x14, x15, x16, x17, x18, x19, rfl, hB⟩ hd K hK
      have d0 : x12 = _ := hd 0 (by kernel_rfl)
      subst d0
      go_wp2_with (first | (go_at_call 14; ((with_reducible refine (toP_any n1 ms hl.out _).mono ?_); rintro e w2 ⟨rfl, hB2⟩)))
      refine hK _ _ ⟨_, _, _, _, _, _, _, _, _, _, _, _, rfl, hB.trans (hB2.mono hB.size)⟩ (rfl) ?_
      rintro (_|_|_|_|_|_|_|_|_|_|_|_|_|_) hj hn h <;> first | exact h | exact absurd rfl hj | (obtain ⟨g, hg, e, cs, hcs, hO⟩ := h; exact ⟨g, hg, e, cs, hcs, hO.below hB2 hO.lt⟩) | (obtain ⟨g, hg, e, hO⟩ := h; exact ⟨g, hg, e, hO.below hB2 hO.lt⟩) | exact waits_no hn (by kernel_rfl)
    · rintro a w0 ⟨x5, x6, x7, x11, x12, x13, x14, x15, x16, x17, x18, x19, rfl, hB⟩ hd K hK
      go_wp2_with (first | (refine wpList_load_row rfl 24 _ rfl _ rfl 24 _ (0, 0) _ (hA2.below hB hlt2) Try.underlying24 rfl (rowLP (d9 _ _ (hl2.out))) ?_))
      refine hK _ _ ⟨_, _, _, _, _, _, _, _, _, _, _, _, rfl, hB⟩ (rfl) ?_
      rintro (_|_|_|_|_|_|_|_|_|_|_|_|_|_) hj hn h <;> first | exact h | exact absurd rfl hj | exact waits_no hn (by kernel_rfl)
    · rintro a w0 ⟨x5, x6, x7, x11, x12, x13, x14, x15, x16, x17, x18, x19, rfl, hB⟩ hd K hK
      have d0 : x14 = _ := hd 2 (by kernel_rfl)
      subst d0
      go_wp2_with (first | (go_at_call 14; ((with_reducible refine (toP_any n2 es hl2.out _).mono ?_); rintro e w2 ⟨rfl, hB2⟩)))
      refine hK _ _ ⟨_, _, _, _, _, _, _, _, _, _, _, _, rfl, hB.trans (hB2.mono hB.size)⟩ (rfl) ?_
      rintro (_|_|_|_|_|_|_|_|_|_|_|_|_|_) hj hn h <;> first | exact h | exact absurd rfl hj | (obtain ⟨g, hg, e, cs, hcs, hO⟩ := h; exact ⟨g, hg, e, cs, hcs, hO.below hB2 hO.lt⟩) | (obtain ⟨g, hg, e, hO⟩ := h; exact ⟨g, hg, e, hO.below hB2 hO.lt⟩) | exact waits_no hn (by kernel_rfl)
    · rintro a w0 ⟨x5, x6, x7, x11, x12, x13, x14, x15, x16, x17, x18, x19, rfl, hB⟩ hd K hK
      have d0 : x13 = _ := hd 1 (by kernel_rfl)
      have d1 : x15 = _ := hd 3 (by kernel_rfl)
      subst d0 d1
      go_wp2_with (first | (go_at_call 32; ((with_reducible refine (hS'.out _).mono ?_); rintro e w2 ⟨rfl, hB2⟩)))
      refine hK _ _ ⟨_, _, _, _, _, _, _, _, _, _, _, _, rfl, hB.trans (hB2.mono hB.size)⟩ (rfl) ?_
      rintro (_|_|_|_|_|_|_|_|_|_|_|_|_|_) hj hn h <;> first | exact h | exact absurd rfl hj | (obtain ⟨g, hg, e, cs, hcs, hO⟩ := h; exact ⟨g, hg, e, cs, hcs, hO.below hB2 hO.lt⟩) | (obtain ⟨g, hg, e, hO⟩ := h; exact ⟨g, hg, e, hO.below hB2 hO.lt⟩) | exact waits_no hn (by kernel_rfl)
    · rintro a w0 ⟨x5, x6, x7, x11, x12, x13, x14, x15, x16, x17, x18, x19, rfl, hB⟩ hd K hK
      have d0 : x16 = _ := hd 4 (by kernel_rfl)
      subst d0
      go_wp2
      refine hK _ _ ⟨_, _, _, _, _, _, _, _, _, _, _, _, rfl, hB⟩ (rfl) ?_
      rintro (_|_|_|_|_|_|_|_|_|_|_|_|_|_) hj hn h <;> first | exact h | exact absurd rfl hj | exact waits_no hn (by kernel_rfl)
    · rintro a w0 ⟨x5, x6, x7, x11, x12, x13, x14, x15, x16, x17, x18, x19, rfl, hB⟩ hd K hK
      have d0 : x11 = _ := hd 5 (by kernel_rfl)
      subst d0
      go_wp2
      refine hK _ _ ⟨_, _, _, _, _, _, _, _, _, _, _, _, rfl, hB⟩ (rfl) ?_
      rintro (_|_|_|_|_|_|_|_|_|_|_|_|_|_) hj hn h <;> first | exact h | exact absurd rfl hj | exact waits_no hn (by kernel_rfl)
    · rintro a w0 ⟨x5, x6, x7, x11, x12, x13, x14, x15, x16, x17, x18, x19, rfl, hB⟩ hd K hK
      have d0 : x11 = _ := hd 5 (by kernel_rfl)
      subst d0
      go_wp2
      refine hK _ _ ⟨_, _, _, _, _, _, _, _, _, _, _, _, rfl, hB⟩ (rfl) ?_
      rintro (_|_|_|_|_|_|_|_|_|_|_|_|_|_) hj hn h <;> first | exact h | exact absurd rfl hj | exact waits_no hn (by kernel_rfl)
    · rintro a w0 ⟨x5, x6, x7, x11, x12, x13, x14, x15, x16, x17, x18, x19, rfl, hB⟩ hd K hK
      have d0 : x11 = _ := hd 5 (by kernel_rfl)
      subst d0
      go_wp2
      refine hK _ _ ⟨_, _, _, _, _, _, _, _, _, _, _, _, rfl, hB⟩ (rfl) ?_
      rintro (_|_|_|_|_|_|_|_|_|_|_|_|_|_) hj hn h <;> first | exact h | exact absurd rfl hj | exact waits_no hn (by kernel_rfl)
    · rintro a w0 ⟨x5, x6, x7, x11, x12, x13, x14, x15, x16, x17, x18, x19, rfl, hB⟩ hd K hK
      go_wp2
      refine hK _ _ ⟨_, _, _, _, _, _, _, _, _, _, _, _, rfl, hB.alloc hB.size _⟩ (⟨_, hB.size, rfl, _, rfl, Own.new _ _ _⟩) ?_
      rintro (_|_|_|_|_|_|_|_|_|_|_|_|_|_) hj hn h <;> first | exact h | exact absurd rfl hj | exact waits_no hn (by kernel_rfl)
    · rintro a w0 ⟨x5, x6, x7, x11, x12, x13, x14, x15, x16, x17, x18, x19, rfl, hB⟩ hd K hK
      have d0 : x17 = _ := hd 6 (by kernel_rfl)
      have d8 := hd 9 (by kernel_rfl)
      obtain ⟨g, hg, e, cs, hcs, hO⟩ := d8
      have e : x5 = _ := e
      subst d0 e
      go_wp2_with (first | (refine wpList_store_own rfl 26 _ _ rfl _ _ rfl rfl 26 _ (hO) (rowP (d9 _ _ (hh.out))) (by rw [hcs, d9 _ _ hh.out]) (dcells_one _ _) ?_; intro w2 hO2 hN2))
      refine hK _ _ ⟨_, _, _, _, _, _, _, _, _, _, _, _, rfl, hB.trans (hN2.below.mono hg)⟩ (⟨g, hg, rfl, hO2⟩) ?_
      rintro (_|_|_|_|_|_|_|_|_|_|_|_|_|_) hj hn h <;> first | exact h | exact absurd rfl hj | exact ⟨g, hg, rfl, _, d9 _ _ hh.out, hO2⟩ | exact waits_no hn (by kernel_rfl)
    · rintro a w0 ⟨x5, x6, x7, x11, x12, x13, x14, x15, x16, x17, x18, x19, rfl, hB⟩ hd K hK
      have d0 : x18 = _ := hd 7 (by kernel_rfl)
      subst d0
      go_wp2
      refine hK _ _ ⟨_, _, _, _, _, _, _, _, _, _, _, _, rfl, hB⟩ (rfl) ?_
      rintro (_|_|_|_|_|_|_|_|_|_|_|_|_|_) hj hn h <;> first | exact h | exact absurd rfl hj | exact waits_no hn (by kernel_rfl)
    · rintro a w0 ⟨x5, x6, x7, x11, x12, x13, x14, x15, x16, x17, x18, x19, rfl, hB⟩ hd K hK
      have d0 : x19 = _ := hd 8 (by kernel_rfl)
      subst d0
      go_wp2
      refine hK _ _ ⟨_, _, _, _, _, _, _, _, _, _, _, _, rfl, hB⟩ (rfl) ?_
      rintro (_|_|_|_|_|_|_|_|_|_|_|_|_|_) hj hn h <;> first | exact h | exact absurd rfl hj | exact waits_no hn (by kernel_rfl)
  · rintro a w1 ⟨x5, x6, x7, x11, x12, x13, x14, x15, x16, x17, x18, x19, rfl, hB⟩ hF
    have e0 : x6 = _ := hF 11 (by decide)
    have e1 : x7 = _ := hF 12 (by decide)
    have d9 := hF 10 (by decide)
    obtain ⟨g, hg, e, hOg⟩ := d9
    have e : x5 = _ := e
    subst e e0 e1
    have hC1 : Own w1.drew w.heap.size (dcells n1 ms) 24 := by have := hA1.below hB hlt1; exact this
    have hC2 : Own w1.drew (w.heap.size + 1) (dcells n2 es) 24 := by have := hA2.below hB hlt2; exact this
    have hG1 : Own w1.drew g (dcells m rs) 26 := hOg
    have b2 : Below w.heap.size w w1.drew := (b1.trans (hB.mono b1.size)).drew
    clear hwd
    obtain ⟨we, hwe⟩ : ∃ we, w1.drew = we := ⟨_, rfl⟩
    rw [hwe] at hC1 hC2 hG1 b2
    have hlt3 := hC1.lt
    have hlt4 := hC2.lt
    have hlt5 := hG1.lt
    go_wp2
    refine wp_region_facts (by kernel_rfl) (by kernel_rfl) (fun a w' => ∃ x8 x9 x10 x20 x21 x22 x23 x24 x25 x26 x27 x28 : Value, a = ⟨List.toArray [.agg (dcells n1 ms), .agg (dcells n2 es), .pointer (some ⟨w.heap.size, 0, none⟩), .pointer (some ⟨w.heap.size + 1, 0, none⟩), .bool false, .pointer (some ⟨g, 0, none⟩), .int .i64 c, .int .i64 c2, x8, x9, x10, x11, x12, x13, x14, x15, x16, x17, x18, x19, x20, x21, x22, x23, x24, x25, x26, x27, x28, undef, undef, undef, undef, undef, undef, undef, undef, undef, undef, undef, undef, undef, undef], []⟩ ∧ Below we.heap.size we w') (fun j a w' => match j with | 0 => sl a 21 = .agg (dcells n1 ms) | 1 => sl a 22 = .agg (dcells n1 ms) | 2 => sl a 23 = .agg (dcells n2 es) | 3 => sl a 24 = .agg (dcells n2 es) | 4 => sl a 25 = .tuple #[.agg (dcells m rs), .int .i64 c, .int .i64 c2] | 5 => sl a 20 = .tuple #[.agg (dcells m rs), .int .i64 c, .int .i64 c2] | 6 => sl a 26 = .agg (dcells m rs) | 7 => sl a 27 = .int .i64 c | 8 => sl a 28 = .int .i64 c2 | 9 => ∃ g, we.heap.size ≤ g ∧ sl a 8 = .pointer (some ⟨g, 0, none⟩) ∧ ∃ cs, cs.size = 9 ∧ Own w' g cs 26 | 10 => ∃ g, we.heap.size ≤ g ∧ sl a 8 = .pointer (some ⟨g, 0, none⟩) ∧ Own w' g (dcells m rs) 26 | 11 => sl a 9 = .int .i64 c | 12 => sl a 10 = .int .i64 c2 | _ => True) ⟨_, _, _, _, _, _, _, _, _, _, _, _, rfl, by rw [← hwe]; exact Below.refl _ _⟩ ?_ ?_
    · refine (AllOps.cons ?_ (AllOps.cons ?_ (AllOps.cons ?_ (AllOps.cons ?_ (AllOps.cons ?_ (AllOps.cons ?_ (AllOps.cons ?_ (AllOps.cons ?_ (AllOps.cons ?_ (AllOps.cons ?_ (AllOps.cons ?_ (AllOps.cons ?_ (AllOps.cons ?_ AllOps.nil)))))))))))))
      · rintro a w0 ⟨x8, x9, x10, x20, x21, x22, x23, x24, x25, x26, x27, x28, rfl, hB⟩ hd K hK
        go_wp2_with (first | (refine wpList_load_row rfl 24 _ rfl _ rfl 24 _ (0, 0) _ (hC1.below hB hlt3) Try.underlying24 rfl (rowLP (d9 _ _ (hl.out))) ?_))
        refine hK _ _ ⟨_, _, _, _, _, _, _, _, _, _, _, _, rfl, hB⟩ (rfl) ?_
        rintro (_|_|_|_|_|_|_|_|_|_|_|_|_|_) hj hn h <;> first | exact h | exact absurd rfl hj | exact waits_no hn (by kernel_rfl)
      · rintro a w0 ⟨x8, x9, x10, x20, x21, x22, x23, x24, x25, x26, x27, x28, rfl, hB⟩ hd K hK
        have d0 : x21 = _ := hd 0 (by kernel_rfl)
        subst d0
        go_wp2_with (first | (go_at_call 14; ((with_reducible refine (toP_any n1 ms hl.out _).mono ?_); rintro e w2 ⟨rfl, hB2⟩)))
        refine hK _ _ ⟨_, _, _, _, _, _, _, _, _, _, _, _, rfl, hB.trans (hB2.mono hB.size)⟩ (rfl) ?_
        rintro (_|_|_|_|_|_|_|_|_|_|_|_|_|_) hj hn h <;> first | exact h | exact absurd rfl hj | (obtain ⟨g, hg, e, cs, hcs, hO⟩ := h; exact ⟨g, hg, e, cs, hcs, hO.below hB2 hO.lt⟩) | (obtain ⟨g, hg, e, hO⟩ := h; exact ⟨g, hg, e, hO.below hB2 hO.lt⟩) | exact waits_no hn (by kernel_rfl)
      · rintro a w0 ⟨x8, x9, x10, x20, x21, x22, x23, x24, x25, x26, x27, x28, rfl, hB⟩ hd K hK
        go_wp2_with (first | (refine wpList_load_row rfl 24 _ rfl _ rfl 24 _ (0, 0) _ (hC2.below hB hlt4) Try.underlying24 rfl (rowLP (d9 _ _ (hl2.out))) ?_))
        refine hK _ _ ⟨_, _, _, _, _, _, _, _, _, _, _, _, rfl, hB⟩ (rfl) ?_
        rintro (_|_|_|_|_|_|_|_|_|_|_|_|_|_) hj hn h <;> first | exact h | exact absurd rfl hj | exact waits_no hn (by kernel_rfl)
      · rintro a w0 ⟨x8, x9, x10, x20, x21, x22, x23, x24, x25, x26, x27, x28, rfl, hB⟩ hd K hK
        have d0 : x23 = _ := hd 2 (by kernel_rfl)
        subst d0
        go_wp2_with (first | (go_at_call 14; ((with_reducible refine (toP_any n2 es hl2.out _).mono ?_); rintro e w2 ⟨rfl, hB2⟩)))
        refine hK _ _ ⟨_, _, _, _, _, _, _, _, _, _, _, _, rfl, hB.trans (hB2.mono hB.size)⟩ (rfl) ?_
        rintro (_|_|_|_|_|_|_|_|_|_|_|_|_|_) hj hn h <;> first | exact h | exact absurd rfl hj | (obtain ⟨g, hg, e, cs, hcs, hO⟩ := h; exact ⟨g, hg, e, cs, hcs, hO.below hB2 hO.lt⟩) | (obtain ⟨g, hg, e, hO⟩ := h; exact ⟨g, hg, e, hO.below hB2 hO.lt⟩) | exact waits_no hn (by kernel_rfl)
      · rintro a w0 ⟨x8, x9, x10, x20, x21, x22, x23, x24, x25, x26, x27, x28, rfl, hB⟩ hd K hK
        have d0 : x22 = _ := hd 1 (by kernel_rfl)
        have d1 : x24 = _ := hd 3 (by kernel_rfl)
        subst d0 d1
        go_wp2_with (first | (go_at_call 33; ((with_reducible refine (hI'.out _).mono ?_); rintro e w2 ⟨rfl, hB2⟩)))
        refine hK _ _ ⟨_, _, _, _, _, _, _, _, _, _, _, _, rfl, hB.trans (hB2.mono hB.size)⟩ (rfl) ?_
        rintro (_|_|_|_|_|_|_|_|_|_|_|_|_|_) hj hn h <;> first | exact h | exact absurd rfl hj | (obtain ⟨g, hg, e, cs, hcs, hO⟩ := h; exact ⟨g, hg, e, cs, hcs, hO.below hB2 hO.lt⟩) | (obtain ⟨g, hg, e, hO⟩ := h; exact ⟨g, hg, e, hO.below hB2 hO.lt⟩) | exact waits_no hn (by kernel_rfl)
      · rintro a w0 ⟨x8, x9, x10, x20, x21, x22, x23, x24, x25, x26, x27, x28, rfl, hB⟩ hd K hK
        have d0 : x25 = _ := hd 4 (by kernel_rfl)
        subst d0
        go_wp2
        refine hK _ _ ⟨_, _, _, _, _, _, _, _, _, _, _, _, rfl, hB⟩ (rfl) ?_
        rintro (_|_|_|_|_|_|_|_|_|_|_|_|_|_) hj hn h <;> first | exact h | exact absurd rfl hj | exact waits_no hn (by kernel_rfl)
      · rintro a w0 ⟨x8, x9, x10, x20, x21, x22, x23, x24, x25, x26, x27, x28, rfl, hB⟩ hd K hK
        have d0 : x20 = _ := hd 5 (by kernel_rfl)
        subst d0
        go_wp2
        refine hK _ _ ⟨_, _, _, _, _, _, _, _, _, _, _, _, rfl, hB⟩ (rfl) ?_
        rintro (_|_|_|_|_|_|_|_|_|_|_|_|_|_) hj hn h <;> first | exact h | exact absurd rfl hj | exact waits_no hn (by kernel_rfl)
      · rintro a w0 ⟨x8, x9, x10, x20, x21, x22, x23, x24, x25, x26, x27, x28, rfl, hB⟩ hd K hK
        have d0 : x20 = _ := hd 5 (by kernel_rfl)
        subst d0
        go_wp2
        refine hK _ _ ⟨_, _, _, _, _, _, _, _, _, _, _, _, rfl, hB⟩ (rfl) ?_
        rintro (_|_|_|_|_|_|_|_|_|_|_|_|_|_) hj hn h <;> first | exact h | exact absurd rfl hj | exact waits_no hn (by kernel_rfl)
      · rintro a w0 ⟨x8, x9, x10, x20, x21, x22, x23, x24, x25, x26, x27, x28, rfl, hB⟩ hd K hK
        have d0 : x20 = _ := hd 5 (by kernel_rfl)
        subst d0
        go_wp2
        refine hK _ _ ⟨_, _, _, _, _, _, _, _, _, _, _, _, rfl, hB⟩ (rfl) ?_
        rintro (_|_|_|_|_|_|_|_|_|_|_|_|_|_) hj hn h <;> first | exact h | exact absurd rfl hj | exact waits_no hn (by kernel_rfl)
      · rintro a w0 ⟨x8, x9, x10, x20, x21, x22, x23, x24, x25, x26, x27, x28, rfl, hB⟩ hd K hK
        go_wp2
        refine hK _ _ ⟨_, _, _, _, _, _, _, _, _, _, _, _, rfl, hB.alloc hB.size _⟩ (⟨_, hB.size, rfl, _, rfl, Own.new _ _ _⟩) ?_
        rintro (_|_|_|_|_|_|_|_|_|_|_|_|_|_) hj hn h <;> first | exact h | exact absurd rfl hj | exact waits_no hn (by kernel_rfl)
      · rintro a w0 ⟨x8, x9, x10, x20, x21, x22, x23, x24, x25, x26, x27, x28, rfl, hB⟩ hd K hK
        have d0 : x26 = _ := hd 6 (by kernel_rfl)
        have d8 := hd 9 (by kernel_rfl)
        obtain ⟨g, hg, e, cs, hcs, hO⟩ := d8
        have e : x8 = _ := e
        subst d0 e
        go_wp2_with (first | (refine wpList_store_own rfl 26 _ _ rfl _ _ rfl rfl 26 _ (hO) (rowP (d9 _ _ (hh.out))) (by rw [hcs, d9 _ _ hh.out]) (dcells_one _ _) ?_; intro w2 hO2 hN2))
        refine hK _ _ ⟨_, _, _, _, _, _, _, _, _, _, _, _, rfl, hB.trans (hN2.below.mono hg)⟩ (⟨g, hg, rfl, hO2⟩) ?_
        rintro (_|_|_|_|_|_|_|_|_|_|_|_|_|_) hj hn h <;> first | exact h | exact absurd rfl hj | exact ⟨g, hg, rfl, _, d9 _ _ hh.out, hO2⟩ | exact waits_no hn (by kernel_rfl)
      · rintro a w0 ⟨x8, x9, x10, x20, x21, x22, x23, x24, x25, x26, x27, x28, rfl, hB⟩ hd K hK
        have d0 : x27 = _ := hd 7 (by kernel_rfl)
        subst d0
        go_wp2
        refine hK _ _ ⟨_, _, _, _, _, _, _, _, _, _, _, _, rfl, hB⟩ (rfl) ?_
        rintro (_|_|_|_|_|_|_|_|_|_|_|_|_|_) hj hn h <;> first | exact h | exact absurd rfl hj | exact waits_no hn (by kernel_rfl)
      · rintro a w0 ⟨x8, x9, x10, x20, x21, x22, x23, x24, x25, x26, x27, x28, rfl, hB⟩ hd K hK
        have d0 : x28 = _ := hd 8 (by kernel_rfl)
        subst d0
        go_wp2
        refine hK _ _ ⟨_, _, _, _, _, _, _, _, _, _, _, _, rfl, hB⟩ (rfl) ?_
        rintro (_|_|_|_|_|_|_|_|_|_|_|_|_|_) hj hn h <;> first | exact h | exact absurd rfl hj | exact waits_no hn (by kernel_rfl)
    · rintro a w2 ⟨x8, x9, x10, x20, x21, x22, x23, x24, x25, x26, x27, x28, rfl, hE⟩ hF
      have e0 : x9 = _ := hF 11 (by decide)
      have e1 : x10 = _ := hF 12 (by decide)
      have d9 := hF 10 (by decide)
      obtain ⟨g2, hg2, e, hOg2⟩ := d9
      have e : x8 = _ := e
      subst e e0 e1
      have hG2 : Own w2 g (dcells m rs) 26 := hG1.below hE hlt5
      have b3 : Below w.heap.size w w2 := b2.trans (hE.mono b2.size)
      clear hwe hlt1 hlt2 hlt3 hlt4 hlt5 b1 b2 hA1 hA2 hC1 hC2 hG1 hB hE
      go_wp2_with (first
        | (refine wpList_load_row rfl 26 _ rfl _ rfl 26 _ (0, 0) _ (hOg2) Try.underlying26 rfl (rowP (d9 _ _ (hh.out))) ?_)
        | (refine wpList_load_row rfl 26 _ rfl _ rfl 26 _ (0, 0) _ (hG2) Try.underlying26 rfl (rowP (d9 _ _ (hh.out))) ?_)
        | (go_at_call 20; refine (eqP_same m rs hh.out _).mono ?_; rintro e w7 ⟨rfl, hB7⟩))
      go_ret
      exact ⟨rfl, b3.trans (hB7.mono b3.size)⟩
end Go.Proofs.Ytjecafjdlfdpcaa
