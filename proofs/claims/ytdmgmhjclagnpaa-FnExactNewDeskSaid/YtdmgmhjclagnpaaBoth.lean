/- Two elements that are alike: both codes. -/
import Derived.Test.YtdmgmhjclagnpaaElA
import Derived.Test.YtdmgmhjclagnpaaElL
import Derived.Test.YtdmgmhjclagnpaaOn
namespace Go.Proofs.Ytdmgmhjclagnpaa
open Go.RowKit
set_option linter.unusedVariables false
set_option linter.unusedSimpArgs false
theorem ownE4 {w : World} {g : Nat} {v0 v1 v2 v3 : Value} {t : TypeId} (h : Own w g #[v0, v1, v2, v3] t) : w.cell? ⟨g, 0, none⟩ = some v0 ∧ w.cell? ⟨g, 1, none⟩ = some v1 ∧ w.cell? ⟨g, 2, none⟩ = some v2 ∧ w.cell? ⟨g, 3, none⟩ = some v3 :=
  ⟨h.cell 0, h.cell 1, h.cell 2, h.cell 3⟩
/-- The code of two elements. -/
def cBo (p c n : Int) (ts : List Tm) (p' c' n' : Int) (ts' : List Tm) : Int :=
  if elB p c n ts = false ∨ elB p' c' n' ts' = false then 1 else if p = p' ∧ c = c' ∧ n = n' then 0 else 2
set_option maxRecDepth 100000 in
set_option maxHeartbeats 2000000 in
theorem codeI_any (p c n : Int) (q : Option Addr) (cap : Nat) (ts : List Tm) (hts : ∀ t ∈ ts, t.2.1.length = 16 ∧ Bytes t.2.1) (hx : ts.length ≤ 1048576) (p' c' n' : Int) (q' : Option Addr) (cap' : Nat) (ts' : List Tm) (hts' : ∀ t ∈ ts', t.2.1.length = 16 ∧ Bytes t.2.1) (hx' : ts'.length ≤ 1048576) (w : World) (hR : RdT w q ts) (hR' : RdT w q' ts') :
    Calls Try.prog 35 #[.agg (ecl p c n (.slice q ts.length cap)), .agg (ecl p' c' n' (.slice q' ts'.length cap'))] w fun e w' => e = .returned (.int .i64 (cBo p c n ts p' c' n' ts')) ∧ Below w.heap.size w w' := by
  have h1 := Lib.hid (fun w hR => elI_any p c n q cap ts hts hx w hR)
  have h2 := Lib.hid (fun w hR => elI_any p' c' n' q' cap' ts' hts' hx' w hR)
  have H1 := Lib.hid hR
  have H2 := Lib.hid hR'
  obtain ⟨V, hV⟩ : ∃ V, cBo p c n ts p' c' n' ts' = V := ⟨_, rfl⟩
  have HV := Lib.hid hV
  rw [hV]
  obtain ⟨l, hl⟩ : ∃ l, ts.length = l := ⟨_, rfl⟩
  obtain ⟨l', hl'⟩ : ∃ l, ts'.length = l := ⟨_, rfl⟩
  rw [hl] at h1 ⊢
  rw [hl'] at h2 ⊢
  have a1 := Own.new w #[.int .i64 p, .int .i64 c, .int .i64 n, .slice q l cap] 24
  have a2 := Own.at (w.alloc (.cells #[.int .i64 p, .int .i64 c, .int .i64 n, .slice q l cap] 24)) #[.int .i64 p', .int .i64 c', .int .i64 n', .slice q' l' cap'] 24 (by simp : _ = w.heap.size + 1)
  have a1' := Lib.hid (a1.alloc (.cells #[.int .i64 p', .int .i64 c', .int .i64 n', .slice q' l' cap'] 24))
  have a2' := Lib.hid a2
  have b0 := Lib.hid (((Below.refl w.heap.size w).alloc (Nat.le_refl _) (.cells #[.int .i64 p, .int .i64 c, .int .i64 n, .slice q l cap] 24)).alloc (by simp) (.cells #[.int .i64 p', .int .i64 c', .int .i64 n', .slice q' l' cap'] 24))
  clear a1 a2 hts hts' hx hx' hl hl' hV hR hR'
  cases e1 : elB p c n ts with
  | false =>
    have hv := HV.out
    unfold cBo at hv
    rw [if_pos (Or.inl e1)] at hv
    subst hv
    rw [e1] at h1
    clear e1 HV
    go_enter Try.func35, Try.ntmps35
    unfold ecl at *
    go_wp2_with (first
      | (go_at_call 42; ((with_reducible refine (h1.out _ (H1.out.below b0.out)).mono ?_); rintro e w1 ⟨rfl, hB1⟩; have b1 := b0.out.trans (hB1.mono b0.out.size)))
      | (refine wpList_load_row rfl 24 _ rfl _ rfl 24 _ (0, 0) _ (a1'.out) Try.underlying24 rfl (by kernel_rfl) ?_))
    go_ret
    exact ⟨rfl, b1⟩
  | true =>
    rw [e1] at h1
    cases e2 : elB p' c' n' ts' with
    | false =>
      have hv := HV.out
      unfold cBo at hv
      rw [if_pos (Or.inr e2)] at hv
      subst hv
      rw [e2] at h2
      clear e1 e2 HV
      go_enter Try.func35, Try.ntmps35
      unfold ecl at *
      go_wp2_with (first
        | (go_at_call 42; ((with_reducible refine (h2.out _ (H2.out.below b1)).mono ?_); rintro e w2 ⟨rfl, hB2⟩; have b2 := b1.trans (hB2.mono b1.size)))
        | (refine wpList_load_row_if rfl 24 _ rfl _ rfl 24 _ _ ((a2'.out.below hB1 a2'.out.lt)) Try.underlying24 rfl (by kernel_rfl) ?_)
        | (refine wpList_load_row rfl 24 _ rfl _ rfl 24 _ (0, 0) _ ((a2'.out.below hB1 a2'.out.lt)) Try.underlying24 rfl (by kernel_rfl) ?_)
        | (go_at_call 42; ((with_reducible refine (h1.out _ (H1.out.below b0.out)).mono ?_); rintro e w1 ⟨rfl, hB1⟩; have b1 := b0.out.trans (hB1.mono b0.out.size)))
        | (refine wpList_load_row rfl 24 _ rfl _ rfl 24 _ (0, 0) _ (a1'.out) Try.underlying24 rfl (by kernel_rfl) ?_))
      go_ret
      exact ⟨rfl, b2⟩
    | true =>
      have hv := HV.out
      unfold cBo at hv
      rw [if_neg (by rw [e1, e2]; simp)] at hv
      rw [e2] at h2
      clear e1 e2 HV
      by_cases k1 : p = p'
      · subst k1
        by_cases k2 : c = c'
        · subst k2
          by_cases k3 : n = n'
          · subst k3
            rw [if_pos ⟨rfl, rfl, rfl⟩] at hv
            subst hv
            go_enter Try.func35, Try.ntmps35
            unfold ecl at *
            go_wp2_with (first
              | (go_at_call 42; ((with_reducible refine (h2.out _ (H2.out.below b1)).mono ?_); rintro e w2 ⟨rfl, hB2⟩; have b2 := b1.trans (hB2.mono b1.size); obtain ⟨x0, x1, x2, _⟩ := ownE4 ((a1'.out.below hB1 a1'.out.lt).below hB2 (a1'.out.below hB1 a1'.out.lt).lt); obtain ⟨y0, y1, y2, _⟩ := ownE4 ((a2'.out.below hB1 a2'.out.lt).below hB2 (a2'.out.below hB1 a2'.out.lt).lt)))
              | (refine wpList_load_row_if rfl 24 _ rfl _ rfl 24 _ _ ((a2'.out.below hB1 a2'.out.lt)) Try.underlying24 rfl (by kernel_rfl) ?_)
              | (refine wpList_load_row rfl 24 _ rfl _ rfl 24 _ (0, 0) _ ((a2'.out.below hB1 a2'.out.lt)) Try.underlying24 rfl (by kernel_rfl) ?_)
              | (go_at_call 42; ((with_reducible refine (h1.out _ (H1.out.below b0.out)).mono ?_); rintro e w1 ⟨rfl, hB1⟩; have b1 := b0.out.trans (hB1.mono b0.out.size)))
              | (refine wpList_load_row rfl 24 _ rfl _ rfl 24 _ (0, 0) _ (a1'.out) Try.underlying24 rfl (by kernel_rfl) ?_))
            go_ret
            exact ⟨rfl, b2⟩
          · rw [if_neg (fun h => k3 h.2.2)] at hv
            subst hv
            have k3' : (n != n') = true := by simpa using k3
            clear k3
            go_enter Try.func35, Try.ntmps35
            unfold ecl at *
            go_wp2_with (first
              | (go_at_call 42; ((with_reducible refine (h2.out _ (H2.out.below b1)).mono ?_); rintro e w2 ⟨rfl, hB2⟩; have b2 := b1.trans (hB2.mono b1.size); obtain ⟨x0, x1, x2, _⟩ := ownE4 ((a1'.out.below hB1 a1'.out.lt).below hB2 (a1'.out.below hB1 a1'.out.lt).lt); obtain ⟨y0, y1, y2, _⟩ := ownE4 ((a2'.out.below hB1 a2'.out.lt).below hB2 (a2'.out.below hB1 a2'.out.lt).lt)))
              | (refine wpList_load_row_if rfl 24 _ rfl _ rfl 24 _ _ ((a2'.out.below hB1 a2'.out.lt)) Try.underlying24 rfl (by kernel_rfl) ?_)
              | (refine wpList_load_row rfl 24 _ rfl _ rfl 24 _ (0, 0) _ ((a2'.out.below hB1 a2'.out.lt)) Try.underlying24 rfl (by kernel_rfl) ?_)
              | (go_at_call 42; ((with_reducible refine (h1.out _ (H1.out.below b0.out)).mono ?_); rintro e w1 ⟨rfl, hB1⟩; have b1 := b0.out.trans (hB1.mono b0.out.size)))
              | (refine wpList_load_row rfl 24 _ rfl _ rfl 24 _ (0, 0) _ (a1'.out) Try.underlying24 rfl (by kernel_rfl) ?_))
            go_ret
            exact ⟨rfl, b2⟩
        · rw [if_neg (fun h => k2 h.2.1)] at hv
          subst hv
          have k2' : (c != c') = true := by simpa using k2
          clear k2
          go_enter Try.func35, Try.ntmps35
          unfold ecl at *
          go_wp2_with (first
            | (go_at_call 42; ((with_reducible refine (h2.out _ (H2.out.below b1)).mono ?_); rintro e w2 ⟨rfl, hB2⟩; have b2 := b1.trans (hB2.mono b1.size); obtain ⟨x0, x1, x2, _⟩ := ownE4 ((a1'.out.below hB1 a1'.out.lt).below hB2 (a1'.out.below hB1 a1'.out.lt).lt); obtain ⟨y0, y1, y2, _⟩ := ownE4 ((a2'.out.below hB1 a2'.out.lt).below hB2 (a2'.out.below hB1 a2'.out.lt).lt)))
            | (refine wpList_load_row_if rfl 24 _ rfl _ rfl 24 _ _ ((a2'.out.below hB1 a2'.out.lt)) Try.underlying24 rfl (by kernel_rfl) ?_)
            | (refine wpList_load_row rfl 24 _ rfl _ rfl 24 _ (0, 0) _ ((a2'.out.below hB1 a2'.out.lt)) Try.underlying24 rfl (by kernel_rfl) ?_)
            | (go_at_call 42; ((with_reducible refine (h1.out _ (H1.out.below b0.out)).mono ?_); rintro e w1 ⟨rfl, hB1⟩; have b1 := b0.out.trans (hB1.mono b0.out.size)))
            | (refine wpList_load_row rfl 24 _ rfl _ rfl 24 _ (0, 0) _ (a1'.out) Try.underlying24 rfl (by kernel_rfl) ?_))
          go_ret
          exact ⟨rfl, b2⟩
      · rw [if_neg (fun h => k1 h.1)] at hv
        subst hv
        have k1' : (p != p') = true := by simpa using k1
        clear k1
        go_enter Try.func35, Try.ntmps35
        unfold ecl at *
        go_wp2_with (first
          | (go_at_call 42; ((with_reducible refine (h2.out _ (H2.out.below b1)).mono ?_); rintro e w2 ⟨rfl, hB2⟩; have b2 := b1.trans (hB2.mono b1.size); obtain ⟨x0, x1, x2, _⟩ := ownE4 ((a1'.out.below hB1 a1'.out.lt).below hB2 (a1'.out.below hB1 a1'.out.lt).lt); obtain ⟨y0, y1, y2, _⟩ := ownE4 ((a2'.out.below hB1 a2'.out.lt).below hB2 (a2'.out.below hB1 a2'.out.lt).lt)))
          | (refine wpList_load_row_if rfl 24 _ rfl _ rfl 24 _ _ ((a2'.out.below hB1 a2'.out.lt)) Try.underlying24 rfl (by kernel_rfl) ?_)
          | (refine wpList_load_row rfl 24 _ rfl _ rfl 24 _ (0, 0) _ ((a2'.out.below hB1 a2'.out.lt)) Try.underlying24 rfl (by kernel_rfl) ?_)
          | (go_at_call 42; ((with_reducible refine (h1.out _ (H1.out.below b0.out)).mono ?_); rintro e w1 ⟨rfl, hB1⟩; have b1 := b0.out.trans (hB1.mono b0.out.size)))
          | (refine wpList_load_row rfl 24 _ rfl _ rfl 24 _ (0, 0) _ (a1'.out) Try.underlying24 rfl (by kernel_rfl) ?_))
        go_ret
        exact ⟨rfl, b2⟩
set_option maxRecDepth 100000 in
set_option maxHeartbeats 2000000 in
theorem codeS_any (p c n : Int) (q : Option Addr) (cap : Nat) (ts : List Tm) (hts : ∀ t ∈ ts, t.2.1.length = 16 ∧ Bytes t.2.1) (hx : ts.length ≤ 1048576) (p' c' n' : Int) (q' : Option Addr) (cap' : Nat) (ts' : List Tm) (hts' : ∀ t ∈ ts', t.2.1.length = 16 ∧ Bytes t.2.1) (hx' : ts'.length ≤ 1048576) (hp0 : -9223372036854775808 ≤ p ∧ p ≤ 9223372036854775807) (hp0' : -9223372036854775808 ≤ p' ∧ p' ≤ 9223372036854775807) (w : World) (hR : RdT w q ts) (hR' : RdT w q' ts') :
    Calls Try.prog 34 #[.agg (ecl p c n (.slice q ts.length cap)), .agg (ecl p' c' n' (.slice q' ts'.length cap'))] w fun e w' => e = .returned (.int .i64 (cBo p c n ts p' c' n' ts')) ∧ Below w.heap.size w w' := by
  have h1 := Lib.hid (fun w hR => elS_any p c n q cap ts hts hx hp0 w hR)
  have h2 := Lib.hid (fun w hR => elS_any p' c' n' q' cap' ts' hts' hx' hp0' w hR)
  have H1 := Lib.hid hR
  have H2 := Lib.hid hR'
  obtain ⟨V, hV⟩ : ∃ V, cBo p c n ts p' c' n' ts' = V := ⟨_, rfl⟩
  have HV := Lib.hid hV
  rw [hV]
  obtain ⟨l, hl⟩ : ∃ l, ts.length = l := ⟨_, rfl⟩
  obtain ⟨l', hl'⟩ : ∃ l, ts'.length = l := ⟨_, rfl⟩
  rw [hl] at h1 ⊢
  rw [hl'] at h2 ⊢
  have a1 := Own.new w #[.int .i64 p, .int .i64 c, .int .i64 n, .slice q l cap] 24
  have a2 := Own.at (w.alloc (.cells #[.int .i64 p, .int .i64 c, .int .i64 n, .slice q l cap] 24)) #[.int .i64 p', .int .i64 c', .int .i64 n', .slice q' l' cap'] 24 (by simp : _ = w.heap.size + 1)
  have a1' := Lib.hid (a1.alloc (.cells #[.int .i64 p', .int .i64 c', .int .i64 n', .slice q' l' cap'] 24))
  have a2' := Lib.hid a2
  have b0 := Lib.hid (((Below.refl w.heap.size w).alloc (Nat.le_refl _) (.cells #[.int .i64 p, .int .i64 c, .int .i64 n, .slice q l cap] 24)).alloc (by simp) (.cells #[.int .i64 p', .int .i64 c', .int .i64 n', .slice q' l' cap'] 24))
  clear a1 a2 hts hts' hx hx' hl hl' hV hR hR'
  cases e1 : elB p c n ts with
  | false =>
    have hv := HV.out
    unfold cBo at hv
    rw [if_pos (Or.inl e1)] at hv
    subst hv
    rw [e1] at h1
    clear e1 HV
    go_enter Try.func34, Try.ntmps34
    unfold ecl at *
    go_wp2_with (first
      | (go_at_call 37; ((with_reducible refine (h1.out _ (H1.out.below b0.out)).mono ?_); rintro e w1 ⟨rfl, hB1⟩; have b1 := b0.out.trans (hB1.mono b0.out.size)))
      | (refine wpList_load_row rfl 24 _ rfl _ rfl 24 _ (0, 0) _ (a1'.out) Try.underlying24 rfl (by kernel_rfl) ?_))
    go_ret
    exact ⟨rfl, b1⟩
  | true =>
    rw [e1] at h1
    cases e2 : elB p' c' n' ts' with
    | false =>
      have hv := HV.out
      unfold cBo at hv
      rw [if_pos (Or.inr e2)] at hv
      subst hv
      rw [e2] at h2
      clear e1 e2 HV
      go_enter Try.func34, Try.ntmps34
      unfold ecl at *
      go_wp2_with (first
        | (go_at_call 37; ((with_reducible refine (h2.out _ (H2.out.below b1)).mono ?_); rintro e w2 ⟨rfl, hB2⟩; have b2 := b1.trans (hB2.mono b1.size)))
        | (refine wpList_load_row_if rfl 24 _ rfl _ rfl 24 _ _ ((a2'.out.below hB1 a2'.out.lt)) Try.underlying24 rfl (by kernel_rfl) ?_)
        | (refine wpList_load_row rfl 24 _ rfl _ rfl 24 _ (0, 0) _ ((a2'.out.below hB1 a2'.out.lt)) Try.underlying24 rfl (by kernel_rfl) ?_)
        | (go_at_call 37; ((with_reducible refine (h1.out _ (H1.out.below b0.out)).mono ?_); rintro e w1 ⟨rfl, hB1⟩; have b1 := b0.out.trans (hB1.mono b0.out.size)))
        | (refine wpList_load_row rfl 24 _ rfl _ rfl 24 _ (0, 0) _ (a1'.out) Try.underlying24 rfl (by kernel_rfl) ?_))
      go_ret
      exact ⟨rfl, b2⟩
    | true =>
      have hv := HV.out
      unfold cBo at hv
      rw [if_neg (by rw [e1, e2]; simp)] at hv
      rw [e2] at h2
      clear e1 e2 HV
      by_cases k1 : p = p'
      · subst k1
        by_cases k2 : c = c'
        · subst k2
          by_cases k3 : n = n'
          · subst k3
            rw [if_pos ⟨rfl, rfl, rfl⟩] at hv
            subst hv
            go_enter Try.func34, Try.ntmps34
            unfold ecl at *
            go_wp2_with (first
              | (go_at_call 37; ((with_reducible refine (h2.out _ (H2.out.below b1)).mono ?_); rintro e w2 ⟨rfl, hB2⟩; have b2 := b1.trans (hB2.mono b1.size); obtain ⟨x0, x1, x2, _⟩ := ownE4 ((a1'.out.below hB1 a1'.out.lt).below hB2 (a1'.out.below hB1 a1'.out.lt).lt); obtain ⟨y0, y1, y2, _⟩ := ownE4 ((a2'.out.below hB1 a2'.out.lt).below hB2 (a2'.out.below hB1 a2'.out.lt).lt)))
              | (refine wpList_load_row_if rfl 24 _ rfl _ rfl 24 _ _ ((a2'.out.below hB1 a2'.out.lt)) Try.underlying24 rfl (by kernel_rfl) ?_)
              | (refine wpList_load_row rfl 24 _ rfl _ rfl 24 _ (0, 0) _ ((a2'.out.below hB1 a2'.out.lt)) Try.underlying24 rfl (by kernel_rfl) ?_)
              | (go_at_call 37; ((with_reducible refine (h1.out _ (H1.out.below b0.out)).mono ?_); rintro e w1 ⟨rfl, hB1⟩; have b1 := b0.out.trans (hB1.mono b0.out.size)))
              | (refine wpList_load_row rfl 24 _ rfl _ rfl 24 _ (0, 0) _ (a1'.out) Try.underlying24 rfl (by kernel_rfl) ?_))
            go_ret
            exact ⟨rfl, b2⟩
          · rw [if_neg (fun h => k3 h.2.2)] at hv
            subst hv
            have k3' : (n != n') = true := by simpa using k3
            clear k3
            go_enter Try.func34, Try.ntmps34
            unfold ecl at *
            go_wp2_with (first
              | (go_at_call 37; ((with_reducible refine (h2.out _ (H2.out.below b1)).mono ?_); rintro e w2 ⟨rfl, hB2⟩; have b2 := b1.trans (hB2.mono b1.size); obtain ⟨x0, x1, x2, _⟩ := ownE4 ((a1'.out.below hB1 a1'.out.lt).below hB2 (a1'.out.below hB1 a1'.out.lt).lt); obtain ⟨y0, y1, y2, _⟩ := ownE4 ((a2'.out.below hB1 a2'.out.lt).below hB2 (a2'.out.below hB1 a2'.out.lt).lt)))
              | (refine wpList_load_row_if rfl 24 _ rfl _ rfl 24 _ _ ((a2'.out.below hB1 a2'.out.lt)) Try.underlying24 rfl (by kernel_rfl) ?_)
              | (refine wpList_load_row rfl 24 _ rfl _ rfl 24 _ (0, 0) _ ((a2'.out.below hB1 a2'.out.lt)) Try.underlying24 rfl (by kernel_rfl) ?_)
              | (go_at_call 37; ((with_reducible refine (h1.out _ (H1.out.below b0.out)).mono ?_); rintro e w1 ⟨rfl, hB1⟩; have b1 := b0.out.trans (hB1.mono b0.out.size)))
              | (refine wpList_load_row rfl 24 _ rfl _ rfl 24 _ (0, 0) _ (a1'.out) Try.underlying24 rfl (by kernel_rfl) ?_))
            go_ret
            exact ⟨rfl, b2⟩
        · rw [if_neg (fun h => k2 h.2.1)] at hv
          subst hv
          have k2' : (c != c') = true := by simpa using k2
          clear k2
          go_enter Try.func34, Try.ntmps34
          unfold ecl at *
          go_wp2_with (first
            | (go_at_call 37; ((with_reducible refine (h2.out _ (H2.out.below b1)).mono ?_); rintro e w2 ⟨rfl, hB2⟩; have b2 := b1.trans (hB2.mono b1.size); obtain ⟨x0, x1, x2, _⟩ := ownE4 ((a1'.out.below hB1 a1'.out.lt).below hB2 (a1'.out.below hB1 a1'.out.lt).lt); obtain ⟨y0, y1, y2, _⟩ := ownE4 ((a2'.out.below hB1 a2'.out.lt).below hB2 (a2'.out.below hB1 a2'.out.lt).lt)))
            | (refine wpList_load_row_if rfl 24 _ rfl _ rfl 24 _ _ ((a2'.out.below hB1 a2'.out.lt)) Try.underlying24 rfl (by kernel_rfl) ?_)
            | (refine wpList_load_row rfl 24 _ rfl _ rfl 24 _ (0, 0) _ ((a2'.out.below hB1 a2'.out.lt)) Try.underlying24 rfl (by kernel_rfl) ?_)
            | (go_at_call 37; ((with_reducible refine (h1.out _ (H1.out.below b0.out)).mono ?_); rintro e w1 ⟨rfl, hB1⟩; have b1 := b0.out.trans (hB1.mono b0.out.size)))
            | (refine wpList_load_row rfl 24 _ rfl _ rfl 24 _ (0, 0) _ (a1'.out) Try.underlying24 rfl (by kernel_rfl) ?_))
          go_ret
          exact ⟨rfl, b2⟩
      · rw [if_neg (fun h => k1 h.1)] at hv
        subst hv
        have k1' : (p != p') = true := by simpa using k1
        clear k1
        go_enter Try.func34, Try.ntmps34
        unfold ecl at *
        go_wp2_with (first
          | (go_at_call 37; ((with_reducible refine (h2.out _ (H2.out.below b1)).mono ?_); rintro e w2 ⟨rfl, hB2⟩; have b2 := b1.trans (hB2.mono b1.size); obtain ⟨x0, x1, x2, _⟩ := ownE4 ((a1'.out.below hB1 a1'.out.lt).below hB2 (a1'.out.below hB1 a1'.out.lt).lt); obtain ⟨y0, y1, y2, _⟩ := ownE4 ((a2'.out.below hB1 a2'.out.lt).below hB2 (a2'.out.below hB1 a2'.out.lt).lt)))
          | (refine wpList_load_row_if rfl 24 _ rfl _ rfl 24 _ _ ((a2'.out.below hB1 a2'.out.lt)) Try.underlying24 rfl (by kernel_rfl) ?_)
          | (refine wpList_load_row rfl 24 _ rfl _ rfl 24 _ (0, 0) _ ((a2'.out.below hB1 a2'.out.lt)) Try.underlying24 rfl (by kernel_rfl) ?_)
          | (go_at_call 37; ((with_reducible refine (h1.out _ (H1.out.below b0.out)).mono ?_); rintro e w1 ⟨rfl, hB1⟩; have b1 := b0.out.trans (hB1.mono b0.out.size)))
          | (refine wpList_load_row rfl 24 _ rfl _ rfl 24 _ (0, 0) _ (a1'.out) Try.underlying24 rfl (by kernel_rfl) ?_))
        go_ret
        exact ⟨rfl, b2⟩
end Go.Proofs.Ytdmgmhjclagnpaa
