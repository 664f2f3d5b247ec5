/- The error of two elements: the program's codeOfPair and the model's l02Both. -/
import Derived.Test.YtpmcngmphkegnaaElL
import Derived.Test.YtpmcngmphkegnaaElA
import Derived.Deep.CutRange
namespace Go.Proofs.Ytpmcngmphkegnaa
open Go.RowKit Go.Lib
set_option linter.unusedVariables false
set_option linter.unusedSimpArgs false
theorem own4b {w : World} {g : Nat} {v0 v1 v2 v3 : Value} {t : TypeId} (h : Own w g #[v0, v1, v2, v3] t) : w.cell? ⟨g, 0, none⟩ = some v0 ∧ w.cell? ⟨g, 1, none⟩ = some v1 ∧ w.cell? ⟨g, 2, none⟩ = some v2 ∧ w.cell? ⟨g, 3, none⟩ = some v3 := ⟨h.cell 0, h.cell 1, h.cell 2, h.cell 3⟩
/-- The code of two elements. -/
def prC (p c n : Int) (xs : List Tm) (p2 c2 n2 : Int) (ys : List Tm) : Int := if elB p c n xs && elB p2 c2 n2 ys then (if p = p2 ∧ c = c2 ∧ n = n2 then 0 else 2) else 1
theorem prC_zero {p c n p2 c2 n2 : Int} {xs ys : List Tm} (h : prC p c n xs p2 c2 n2 ys = 0) : elB p c n xs = true ∧ elB p2 c2 n2 ys = true ∧ p = p2 ∧ c = c2 ∧ n = n2 := by
  unfold prC at h
  split at h
  next a =>
    rw [Bool.and_eq_true] at a
    split at h
    next b => exact ⟨a.1, a.2, b⟩
    next => omega
  next => omega
set_option maxRecDepth 100000 in
set_option maxHeartbeats 4000000 in
theorem prI_any (p c n p2 c2 n2 : Int) (q q2 : Option Addr) (cap cap2 : Nat) (xs ys : List Tm) (hts : ∀ t ∈ xs, t.2.1.length = 16 ∧ Bytes t.2.1) (hx : xs.length ≤ 1048576) (hts2 : ∀ t ∈ ys, t.2.1.length = 16 ∧ Bytes t.2.1) (hy : ys.length ≤ 1048576) (w : World) (hR : RdT w q xs) (hR2 : RdT w q2 ys) :
    Calls Try.prog 49 #[.agg (ecl p c n (.slice q xs.length cap)), .agg (ecl p2 c2 n2 (.slice q2 ys.length cap2))] w fun e w' => e = .returned (.int .i64 (prC p c n xs p2 c2 n2 ys)) ∧ Below w.heap.size w w' := by
  have hi := Lib.hid (fun w hR => elI_any p c n q cap xs hts hx w hR)
  have hj := Lib.hid (fun w hR => elI_any p2 c2 n2 q2 cap2 ys hts2 hy w hR)
  have hR1 := Lib.hid (fun w' (hb : Below w.heap.size w w') => hR.below hb)
  have hR3 := Lib.hid (fun w' (hb : Below w.heap.size w w') => hR2.below hb)
  unfold prC
  obtain ⟨l, hll⟩ : ∃ l, xs.length = l := ⟨_, rfl⟩
  obtain ⟨m, hmm⟩ : ∃ m, ys.length = m := ⟨_, rfl⟩
  obtain ⟨b1, hb1⟩ : ∃ b, elB p c n xs = b := ⟨_, rfl⟩
  obtain ⟨b2, hb2⟩ : ∃ b, elB p2 c2 n2 ys = b := ⟨_, rfl⟩
  rw [hll, hb1] at hi
  rw [hmm, hb2] at hj
  rw [hll, hmm, hb1, hb2]
  clear hts hx hts2 hy hR hR2 hll hmm hb1 hb2
  unfold ecl at *
  have wb0 : Below w.heap.size w ((w.alloc (.cells #[.int .i64 p, .int .i64 c, .int .i64 n, .slice q l cap] 28)).alloc (.cells #[.int .i64 p2, .int .i64 c2, .int .i64 n2, .slice q2 m cap2] 28)) := ((Below.refl w.heap.size w).alloc (Nat.le_refl _) _).alloc (by simp) _
  have oX0 : Own ((w.alloc (.cells #[.int .i64 p, .int .i64 c, .int .i64 n, .slice q l cap] 28)).alloc (.cells #[.int .i64 p2, .int .i64 c2, .int .i64 n2, .slice q2 m cap2] 28)) w.heap.size #[.int .i64 p, .int .i64 c, .int .i64 n, .slice q l cap] 28 := (Own.new _ _ _).alloc _
  have oY0 : Own ((w.alloc (.cells #[.int .i64 p, .int .i64 c, .int .i64 n, .slice q l cap] 28)).alloc (.cells #[.int .i64 p2, .int .i64 c2, .int .i64 n2, .slice q2 m cap2] 28)) (w.heap.size + 1) #[.int .i64 p2, .int .i64 c2, .int .i64 n2, .slice q2 m cap2] 28 := Own.at _ _ _ (by simp)
  go_enter Try.func49, Try.ntmps49
  cases b1 with
  | false =>
    go_wp2_with (first
      | (go_at_call 58; ((with_reducible refine (hi.out _ (hR1.out _ wb0)).mono ?_); rintro e w1 ⟨rfl, hB1⟩; have b1 := wb0.trans (hB1.mono (by simp; omega))))
      | (refine wpList_load_row rfl 28 _ rfl _ rfl 28 _ (0, 0) _ oX0 Try.underlying28 rfl (by kernel_rfl) ?_))
    go_ret
    exact ⟨rfl, b1⟩
  | true =>
    cases b2 with
    | false =>
      go_wp2_with (first
        | (go_at_call 58; ((with_reducible refine (hj.out _ (hR3.out _ b1)).mono ?_); rintro e w2 ⟨rfl, hB2⟩; have b2 := b1.trans (hB2.mono b1.size)))
        | (refine wpList_load_row_if rfl 28 _ rfl _ rfl 28 _ _ oY1 Try.underlying28 rfl (by kernel_rfl) ?_)
        | (go_at_call 58; ((with_reducible refine (hi.out _ (hR1.out _ wb0)).mono ?_); rintro e w1 ⟨rfl, hB1⟩; have oY1 := oY0.below hB1 (by simp); have b1 := wb0.trans (hB1.mono (by simp; omega))))
        | (refine wpList_load_row rfl 28 _ rfl _ rfl 28 _ (0, 0) _ oX0 Try.underlying28 rfl (by kernel_rfl) ?_))
      go_ret
      exact ⟨rfl, b2⟩
    | true =>
      go_upto_region 3 with (first
        | (go_at_call 58; ((with_reducible refine (hj.out _ (hR3.out _ b1)).mono ?_); rintro e w2 ⟨rfl, hB2⟩; have oX2 := (oX0.below hB1 (by simp; omega)).below hB2 (by have := oY1.lt; omega); have oY2 := oY1.below hB2 oY1.lt; have b2 := b1.trans (hB2.mono b1.size)))
        | (refine wpList_load_row_if rfl 28 _ rfl _ rfl 28 _ _ oY1 Try.underlying28 rfl (by kernel_rfl) ?_)
        | (go_at_call 58; ((with_reducible refine (hi.out _ (hR1.out _ wb0)).mono ?_); rintro e w1 ⟨rfl, hB1⟩; have oY1 := oY0.below hB1 (by simp); have b1 := wb0.trans (hB1.mono (by simp; omega))))
        | (refine wpList_load_row rfl 28 _ rfl _ rfl 28 _ (0, 0) _ oX0 Try.underlying28 rfl (by kernel_rfl) ?_))
      obtain ⟨x0, x1, x2, x3⟩ := own4b oX2
      obtain ⟨y0, y1, y2, y3⟩ := own4b oY2
      clear oX2 oY2 hB1 hB2 oY1 oX0 oY0
      by_cases e1 : p = p2
      · subst e1
        by_cases e2 : c = c2
        · subst e2
          by_cases e3 : n = n2
          · subst e3
            go_wp2
            go_ret
            exact ⟨rfl, b2⟩
          · have e4 : (n != n2) = true := by simpa using e3
            go_wp2
            go_ret
            exact ⟨by simp [e3], b2⟩
        · have e4 : (c != c2) = true := by simpa using e2
          go_wp2
          go_ret
          exact ⟨by simp [e2], b2⟩
      · have e4 : (p != p2) = true := by simpa using e1
        go_wp2
        go_ret
        exact ⟨by simp [e1], b2⟩
set_option maxRecDepth 100000 in
set_option maxHeartbeats 4000000 in
theorem prS_any (p c n p2 c2 n2 : Int) (q q2 : Option Addr) (cap cap2 : Nat) (xs ys : List Tm) (hts : ∀ t ∈ xs, t.2.1.length = 16 ∧ Bytes t.2.1) (hx : xs.length ≤ 1048576) (hts2 : ∀ t ∈ ys, t.2.1.length = 16 ∧ Bytes t.2.1) (hy : ys.length ≤ 1048576) (hpw : -9223372036854775808 ≤ p ∧ p ≤ 9223372036854775807) (hpw2 : -9223372036854775808 ≤ p2 ∧ p2 ≤ 9223372036854775807) (w : World) (hR : RdT w q xs) (hR2 : RdT w q2 ys) :
    Calls Try.prog 45 #[.agg (ecl p c n (.slice q xs.length cap)), .agg (ecl p2 c2 n2 (.slice q2 ys.length cap2))] w fun e w' => e = .returned (.int .i64 (prC p c n xs p2 c2 n2 ys)) ∧ Below w.heap.size w w' := by
  have hi := Lib.hid (fun w hR => elS_any p c n q cap xs hts hx hpw w hR)
  have hj := Lib.hid (fun w hR => elS_any p2 c2 n2 q2 cap2 ys hts2 hy hpw2 w hR)
  have hR1 := Lib.hid (fun w' (hb : Below w.heap.size w w') => hR.below hb)
  have hR3 := Lib.hid (fun w' (hb : Below w.heap.size w w') => hR2.below hb)
  unfold prC
  obtain ⟨l, hll⟩ : ∃ l, xs.length = l := ⟨_, rfl⟩
  obtain ⟨m, hmm⟩ : ∃ m, ys.length = m := ⟨_, rfl⟩
  obtain ⟨b1, hb1⟩ : ∃ b, elB p c n xs = b := ⟨_, rfl⟩
  obtain ⟨b2, hb2⟩ : ∃ b, elB p2 c2 n2 ys = b := ⟨_, rfl⟩
  rw [hll, hb1] at hi
  rw [hmm, hb2] at hj
  rw [hll, hmm, hb1, hb2]
  clear hts hx hts2 hy hpw hpw2 hR hR2 hll hmm hb1 hb2
  unfold ecl at *
  have wb0 : Below w.heap.size w ((w.alloc (.cells #[.int .i64 p, .int .i64 c, .int .i64 n, .slice q l cap] 28)).alloc (.cells #[.int .i64 p2, .int .i64 c2, .int .i64 n2, .slice q2 m cap2] 28)) := ((Below.refl w.heap.size w).alloc (Nat.le_refl _) _).alloc (by simp) _
  have oX0 : Own ((w.alloc (.cells #[.int .i64 p, .int .i64 c, .int .i64 n, .slice q l cap] 28)).alloc (.cells #[.int .i64 p2, .int .i64 c2, .int .i64 n2, .slice q2 m cap2] 28)) w.heap.size #[.int .i64 p, .int .i64 c, .int .i64 n, .slice q l cap] 28 := (Own.new _ _ _).alloc _
  have oY0 : Own ((w.alloc (.cells #[.int .i64 p, .int .i64 c, .int .i64 n, .slice q l cap] 28)).alloc (.cells #[.int .i64 p2, .int .i64 c2, .int .i64 n2, .slice q2 m cap2] 28)) (w.heap.size + 1) #[.int .i64 p2, .int .i64 c2, .int .i64 n2, .slice q2 m cap2] 28 := Own.at _ _ _ (by simp)
  go_enter Try.func45, Try.ntmps45
  cases b1 with
  | false =>
    go_wp2_with (first
      | (go_at_call 55; ((with_reducible refine (hi.out _ (hR1.out _ wb0)).mono ?_); rintro e w1 ⟨rfl, hB1⟩; have b1 := wb0.trans (hB1.mono (by simp; omega))))
      | (refine wpList_load_row rfl 28 _ rfl _ rfl 28 _ (0, 0) _ oX0 Try.underlying28 rfl (by kernel_rfl) ?_))
    go_ret
    exact ⟨rfl, b1⟩
  | true =>
    cases b2 with
    | false =>
      go_wp2_with (first
        | (go_at_call 55; ((with_reducible refine (hj.out _ (hR3.out _ b1)).mono ?_); rintro e w2 ⟨rfl, hB2⟩; have b2 := b1.trans (hB2.mono b1.size)))
        | (refine wpList_load_row_if rfl 28 _ rfl _ rfl 28 _ _ oY1 Try.underlying28 rfl (by kernel_rfl) ?_)
        | (go_at_call 55; ((with_reducible refine (hi.out _ (hR1.out _ wb0)).mono ?_); rintro e w1 ⟨rfl, hB1⟩; have oY1 := oY0.below hB1 (by simp); have b1 := wb0.trans (hB1.mono (by simp; omega))))
        | (refine wpList_load_row rfl 28 _ rfl _ rfl 28 _ (0, 0) _ oX0 Try.underlying28 rfl (by kernel_rfl) ?_))
      go_ret
      exact ⟨rfl, b2⟩
    | true =>
      go_upto_region 3 with (first
        | (go_at_call 55; ((with_reducible refine (hj.out _ (hR3.out _ b1)).mono ?_); rintro e w2 ⟨rfl, hB2⟩; have oX2 := (oX0.below hB1 (by simp; omega)).below hB2 (by have := oY1.lt; omega); have oY2 := oY1.below hB2 oY1.lt; have b2 := b1.trans (hB2.mono b1.size)))
        | (refine wpList_load_row_if rfl 28 _ rfl _ rfl 28 _ _ oY1 Try.underlying28 rfl (by kernel_rfl) ?_)
        | (go_at_call 55; ((with_reducible refine (hi.out _ (hR1.out _ wb0)).mono ?_); rintro e w1 ⟨rfl, hB1⟩; have oY1 := oY0.below hB1 (by simp); have b1 := wb0.trans (hB1.mono (by simp; omega))))
        | (refine wpList_load_row rfl 28 _ rfl _ rfl 28 _ (0, 0) _ oX0 Try.underlying28 rfl (by kernel_rfl) ?_))
      obtain ⟨x0, x1, x2, x3⟩ := own4b oX2
      obtain ⟨y0, y1, y2, y3⟩ := own4b oY2
      clear oX2 oY2 hB1 hB2 oY1 oX0 oY0
      by_cases e1 : p = p2
      · subst e1
        by_cases e2 : c = c2
        · subst e2
          by_cases e3 : n = n2
          · subst e3
            go_wp2
            go_ret
            exact ⟨rfl, b2⟩
          · have e4 : (n != n2) = true := by simpa using e3
            go_wp2
            go_ret
            exact ⟨by simp [e3], b2⟩
        · have e4 : (c != c2) = true := by simpa using e2
          go_wp2
          go_ret
          exact ⟨by simp [e2], b2⟩
      · have e4 : (p != p2) = true := by simpa using e1
        go_wp2
        go_ret
        exact ⟨by simp [e1], b2⟩
end Go.Proofs.Ytpmcngmphkegnaa
