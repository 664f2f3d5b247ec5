/- The model's order of diagrams. -/
import Derived.Test.YtdmgmhjclagnpaaCmp
import Derived.Test.YtdmgmhjclagnpaaTextM
import Derived.Lib.Strings
namespace Go.Proofs.Ytdmgmhjclagnpaa
open Go.RowKit
set_option linter.unusedVariables false
set_option maxRecDepth 100000 in
set_option maxHeartbeats 2000000 in
theorem lessS_any (n1 n2 : Int) (ms es : List Int) (hms : ms.length = 16) (hes : es.length = 16) (hb1 : Bytes ms) (hb2 : Bytes es) (h11 : 1 ≤ n1) (h18 : n1 ≤ 8) (h21 : 1 ≤ n2) (h28 : n2 ≤ 8) (w : World) :
    Calls Try.prog 64 #[.agg (dcells n1 ms), .agg (dcells n2 es)] w fun e w' => e = .returned (.bool (Op.bytesLess (textS n1 ms).toList (textS n2 es).toList)) ∧ Below w.heap.size w w' := by
  have hl := Lib.hid hms
  have hl2 := Lib.hid hes
  have hT1 := Lib.hid (fun w => textM_any n1 ms hms hb1 w h11 h18)
  have hT2 := Lib.hid (fun w => textM_any n2 es hes hb2 w h21 h28)
  generalize textS n1 ms = s1 at *
  generalize textS n2 es = s2 at *
  obtain ⟨r, hr⟩ : ∃ r, Op.bytesLess s1.toList s2.toList = r := ⟨_, rfl⟩
  rw [hr]
  have hr' := Lib.hid hr
  clear hr
  clear hms hes hb1 hb2 h11 h18 h21 h28
  go_enter Try.func64, Try.ntmps64
  go_wp2_with fail
  have hA1 : Own (((w.alloc (.cells (dcells n1 ms) 53)).alloc (.cells (dcells n2 es) 53)).drew) w.heap.size (dcells n1 ms) 53 := (Own.new _ _ _).alloc _
  have hA2 : Own (((w.alloc (.cells (dcells n1 ms) 53)).alloc (.cells (dcells n2 es) 53)).drew) (w.heap.size + 1) (dcells n2 es) 53 := Own.at _ _ _ (by simp)
  have b1 : Below w.heap.size w (((w.alloc (.cells (dcells n1 ms) 53)).alloc (.cells (dcells n2 es) 53)).drew) := (((Below.refl _ _).alloc (Nat.le_refl _) _).alloc (by simp) _).drew
  obtain ⟨wd, hwd⟩ : ∃ wd, (((w.alloc (.cells (dcells n1 ms) 53)).alloc (.cells (dcells n2 es) 53)).drew) = wd := ⟨_, rfl⟩
  rw [hwd] at hA1 hA2 b1
  have hlt1 := hA1.lt
  have hlt2 := hA2.lt
  refine wp_region_facts (by kernel_rfl) (by kernel_rfl) (fun a w' => ∃ x4 x5 x6 x7 x8 x9 : Value, a = ⟨List.toArray [.agg (dcells n1 ms), .agg (dcells n2 es), .pointer (some ⟨w.heap.size, 0, none⟩), .pointer (some ⟨w.heap.size + 1, 0, none⟩), x4, x5, x6, x7, x8, x9], []⟩ ∧ Below wd.heap.size wd w') (fun j a w' => match j with | 0 => sl a 5 = .agg (dcells n1 ms) | 1 => sl a 6 = .string s1 | 2 => sl a 7 = .agg (dcells n2 es) | 3 => sl a 8 = .string s2 | 4 => sl a 9 = .bool r | 5 => sl a 4 = .bool r | _ => True) ⟨_, _, _, _, _, _, rfl, by rw [← hwd]; exact Below.refl _ _⟩ ?_ ?_
  · refine (AllOps.cons ?_ (AllOps.cons ?_ (AllOps.cons ?_ (AllOps.cons ?_ (AllOps.cons ?_ (AllOps.cons ?_ AllOps.nil))))))
    · rintro a w0 ⟨x4, x5, x6, x7, x8, x9, rfl, hB⟩ hd K hK
      go_wp2_with (first | (refine wpList_load_row rfl 53 _ rfl _ rfl 53 _ (0, 0) _ (hA1.below hB hlt1) Try.underlying53 rfl (row26 (d17 _ _ (hl.out))) ?_))
      refine hK _ _ ⟨_, _, _, _, _, _, rfl, hB⟩ (rfl) ?_
      rintro (_|_|_|_|_|_|_) hj hn h <;> first | exact h | exact absurd rfl hj | exact waits_no hn (by kernel_rfl)
    · rintro a w0 ⟨x4, x5, x6, x7, x8, x9, rfl, hB⟩ hd K hK
      have d0 : x5 = _ := hd 0 (by kernel_rfl)
      subst d0
      go_wp2_with (first | (go_at_call 66; ((with_reducible refine (hT1.out _).mono ?_); rintro e w2 ⟨rfl, hB2⟩)))
      refine hK _ _ ⟨_, _, _, _, _, _, rfl, hB.trans (hB2.mono hB.size)⟩ (rfl) ?_
      rintro (_|_|_|_|_|_|_) hj hn h <;> first | exact h | exact absurd rfl hj | exact waits_no hn (by kernel_rfl)
    · rintro a w0 ⟨x4, x5, x6, x7, x8, x9, rfl, hB⟩ hd K hK
      go_wp2_with (first | (refine wpList_load_row rfl 53 _ rfl _ rfl 53 _ (0, 0) _ (hA2.below hB hlt2) Try.underlying53 rfl (row26 (d17 _ _ (hl2.out))) ?_))
      refine hK _ _ ⟨_, _, _, _, _, _, rfl, hB⟩ (rfl) ?_
      rintro (_|_|_|_|_|_|_) hj hn h <;> first | exact h | exact absurd rfl hj | exact waits_no hn (by kernel_rfl)
    · rintro a w0 ⟨x4, x5, x6, x7, x8, x9, rfl, hB⟩ hd K hK
      have d0 : x7 = _ := hd 2 (by kernel_rfl)
      subst d0
      go_wp2_with (first | (go_at_call 66; ((with_reducible refine (hT2.out _).mono ?_); rintro e w2 ⟨rfl, hB2⟩)))
      refine hK _ _ ⟨_, _, _, _, _, _, rfl, hB.trans (hB2.mono hB.size)⟩ (rfl) ?_
      rintro (_|_|_|_|_|_|_) hj hn h <;> first | exact h | exact absurd rfl hj | exact waits_no hn (by kernel_rfl)
    · rintro a w0 ⟨x4, x5, x6, x7, x8, x9, rfl, hB⟩ hd K hK
      have d0 : x6 = _ := hd 1 (by kernel_rfl)
      have d1 : x8 = _ := hd 3 (by kernel_rfl)
      subst d0 d1
      go_wp2
      rw [hr'.out]
      refine hK _ _ ⟨_, _, _, _, _, _, rfl, hB⟩ (rfl) ?_
      rintro (_|_|_|_|_|_|_) hj hn h <;> first | exact h | exact absurd rfl hj | exact waits_no hn (by kernel_rfl)
    · rintro a w0 ⟨x4, x5, x6, x7, x8, x9, rfl, hB⟩ hd K hK
      have d0 : x9 = _ := hd 4 (by kernel_rfl)
      subst d0
      go_wp2
      refine hK _ _ ⟨_, _, _, _, _, _, rfl, hB⟩ (rfl) ?_
      rintro (_|_|_|_|_|_|_) hj hn h <;> first | exact h | exact absurd rfl hj | exact waits_no hn (by kernel_rfl)
  · rintro a w0 ⟨x4, x5, x6, x7, x8, x9, rfl, hB⟩ hd
    have d0 : x4 = _ := hd 5 (by decide)
    subst d0
    go_wp2
    go_ret
    exact ⟨rfl, b1.trans (hB.mono b1.size)⟩
theorem less_cmp : ∀ a b : List UInt8, 0 ≤ Lib.compareBytes a b ↔ Op.bytesLess a b = false := by
  intro a
  induction a with
  | nil => intro b; cases b <;> simp [Lib.compareBytes, Op.bytesLess]
  | cons x a ih =>
    intro b
    cases b with
    | nil => simp [Lib.compareBytes, Op.bytesLess]
    | cons y b =>
      have := ih b
      simp only [Lib.compareBytes, Op.bytesLess]
      by_cases h1 : x < y
      · rw [if_pos h1]; simp [h1]
      · rw [if_neg h1]
        by_cases h2 : y < x
        · have hne : (x == y) = false := by rw [beq_eq_false_iff_ne]; intro e; subst e; exact h1 h2
          rw [if_pos h2, hne]; simp [h1]
        · have he : x = y := by
            have a1 := UInt8.not_lt.1 h1
            have a2 := UInt8.not_lt.1 h2
            exact UInt8.le_antisymm a2 a1
          subst he
          rw [if_neg h2, this]; simp
theorem less_of (a b : ByteArray) : 0 ≤ Extern.BytealgCompare.cmp a b ↔ Op.bytesLess a.toList b.toList = false := by
  rw [Lib.cmp_eq, Lib.toList_data, Lib.toList_data]; exact less_cmp _ _
end Go.Proofs.Ytdmgmhjclagnpaa
