/- Desks: sizes, copies and comparisons of the laws; IsDesk, the program's and the model's; the law of IsDesk. -/
import Derived.Test.YtdmgmhjclagnpaaBoth
import Derived.Test.YtdmgmhjclagnpaaMkt
import Derived.Test.YtdmgmhjclagnpaaOpenK
import Derived.Test.YtdmgmhjclagnpaaLawEl
namespace Go.Proofs.Ytdmgmhjclagnpaa
open Go.RowKit
set_option linter.unusedVariables false
set_option linter.unusedSimpArgs false
theorem Own.dk1 {w : World} {g : Nat} {p c n : Int} {v : Value} {p' c' n' : Int} {v' : Value} {t : TypeId} (h : Own w g (dkl p c n v p' c' n' v') t) : ∀ j u, [Value.int .i64 p, .int .i64 c, .int .i64 n, v][j]? = some u → w.cell? ((⟨g, 0, none⟩ : Addr).add j) = some u := fun j u hj => by
  have := Own.part (A := []) (B := [Value.int .i64 p, .int .i64 c, .int .i64 n, v]) (C := [Value.int .i64 p', .int .i64 c', .int .i64 n', v']) h j u hj
  rw [Addr.add_mid]
  exact this
theorem Own.dk2 {w : World} {g : Nat} {p c n : Int} {v : Value} {p' c' n' : Int} {v' : Value} {t : TypeId} (h : Own w g (dkl p c n v p' c' n' v') t) : ∀ j u, [Value.int .i64 p', .int .i64 c', .int .i64 n', v'][j]? = some u → w.cell? ((⟨g, 4, none⟩ : Addr).add j) = some u := fun j u hj => by
  have := Own.part (A := [Value.int .i64 p, .int .i64 c, .int .i64 n, v]) (B := [Value.int .i64 p', .int .i64 c', .int .i64 n', v']) (C := []) h j u hj
  rw [Addr.add_mid]
  exact this
theorem bel1 (w : World) (o : Obj) : Below w.heap.size w (w.alloc o) := (Below.refl _ w).alloc (Nat.le_refl _) o
theorem bel2 (w : World) (o o2 : Obj) : Below w.heap.size w ((w.alloc o).alloc o2) := (bel1 w o).alloc (by simp) o2
theorem bel3 (w : World) (o o2 o3 : Obj) : Below w.heap.size w (((w.alloc o).alloc o2).alloc o3) := (bel2 w o o2).alloc (by simp; omega) o3
set_option maxRecDepth 100000 in
set_option maxHeartbeats 1000000 in
theorem szDk_any (p c n : Int) (q : Option Addr) (len cap : Nat) (p' c' n' : Int) (q' : Option Addr) (len' cap' : Nat) (w : World) (hm : len ≤ maxLen) (hm' : len' ≤ maxLen) :
    Calls Try.prog 14 #[.agg (dkl p c n (.slice q len cap) p' c' n' (.slice q' len' cap')), .int .i64 1048576] w fun e w' => e = .returned (.int .i64 (if 1048576 - (len : Int) < 0 ∨ 1048576 - (len : Int) - len' < 0 then -1 else 1048576 - (len : Int) - len')) ∧ Below w.heap.size w w' := by
  have h1 := Lib.hid (fun w => szE_any p c n q len cap 1048576 w hm (by omega) (by omega))
  have b0 := bel1 w (.cells (dkl p c n (.slice q len cap) p' c' n' (.slice q' len' cap')) 35)
  have o0 := Lib.hid (Own.new w (dkl p c n (.slice q len cap) p' c' n' (.slice q' len' cap')) 35)
  obtain ⟨BX, hBX⟩ : ∃ X, (dkl p c n (.slice q len cap) p' c' n' (.slice q' len' cap')) = X := ⟨_, rfl⟩
  by_cases k1 : 1048576 - (len : Int) < 0
  · rw [if_pos k1] at h1
    rw [if_pos (Or.inl k1)]
    rw [hBX] at o0 b0 ⊢
    subst hBX
    clear k1
    unfold ecl at h1
    go_enter Try.func14, Try.ntmps14
    go_wp2_with (first
      | (refine wpList_load_at rfl 33 (.tmp 5) rfl ⟨w.heap.size, 0, none⟩ (by first | rfl | simp) _ _ o0.out.dk1 Try.underlying33 rfl (by kernel_rfl) ?_)
      | (go_at_call 18; ((with_reducible refine (h1.out _).mono ?_); rintro e w1 ⟨rfl, hB1⟩; have b1 := b0.trans (hB1.mono b0.size))))
    go_ret
    exact ⟨rfl, b1⟩
  · have h2 := Lib.hid (fun w => szE_any p' c' n' q' len' cap' (1048576 - (len : Int)) w hm' (by omega) (by omega))
    rw [if_neg k1] at h1
    obtain ⟨z, hz⟩ : ∃ z : Int, 1048576 - (len : Int) = z := ⟨_, rfl⟩
    rw [hz] at h1 h2 k1 ⊢
    by_cases k2 : z - len' < 0
    · rw [if_pos k2] at h2
      rw [if_pos (Or.inr k2)]
      clear hz k2
      subst hBX
      unfold ecl at h1 h2
      go_enter Try.func14, Try.ntmps14
      go_wp2_with (first
        | (refine wpList_load_at rfl 33 (.tmp 11) rfl ⟨w.heap.size, 4, none⟩ (by first | rfl | simp) _ _ (o0.out.below hB1 o0.out.lt).dk2 Try.underlying33 rfl (by kernel_rfl) ?_)
        | (refine wpList_load_at rfl 33 (.tmp 5) rfl ⟨w.heap.size, 0, none⟩ (by first | rfl | simp) _ _ o0.out.dk1 Try.underlying33 rfl (by kernel_rfl) ?_)
        | (go_at_call 18; ((with_reducible refine (h2.out w1).mono ?_); rintro e w2 ⟨rfl, hB2⟩; have b2 := b1.trans (hB2.mono b1.size)))
        | (go_at_call 18; ((with_reducible refine (h1.out _).mono ?_); rintro e w1 ⟨rfl, hB1⟩; have b1 := b0.trans (hB1.mono b0.size))))
      go_ret
      exact ⟨rfl, b2⟩
    · rw [if_neg k2] at h2
      rw [if_neg (fun h => h.elim k1 k2)]
      clear hz
      subst hBX
      obtain ⟨y, hy⟩ : ∃ y : Int, z - (len' : Int) = y := ⟨_, rfl⟩
      rw [hy] at h2 k2 ⊢
      clear hy
      unfold ecl at h1 h2
      go_enter Try.func14, Try.ntmps14
      go_wp2_with (first
        | (refine wpList_load_at rfl 33 (.tmp 11) rfl ⟨w.heap.size, 4, none⟩ (by first | rfl | simp) _ _ (o0.out.below hB1 o0.out.lt).dk2 Try.underlying33 rfl (by kernel_rfl) ?_)
        | (refine wpList_load_at rfl 33 (.tmp 5) rfl ⟨w.heap.size, 0, none⟩ (by first | rfl | simp) _ _ o0.out.dk1 Try.underlying33 rfl (by kernel_rfl) ?_)
        | (go_at_call 18; ((with_reducible refine (h2.out w1).mono ?_); rintro e w2 ⟨rfl, hB2⟩; have b2 := b1.trans (hB2.mono b1.size)))
        | (go_at_call 18; ((with_reducible refine (h1.out _).mono ?_); rintro e w1 ⟨rfl, hB1⟩; have b1 := b0.trans (hB1.mono b0.size))))
      go_ret
      exact ⟨rfl, b2⟩
set_option maxRecDepth 100000 in
theorem toEx_any (p c n : Int) (q : Option Addr) (cap : Nat) (ts : List Tm) (hts : ∀ t ∈ ts, t.2.1.length = 16) (hx : ts.length ≤ 1048576) (w : World) (hR : RdT w q ts) :
    Calls Try.prog 20 #[.agg (ecl p c n (.slice q ts.length cap))] w fun e w' => ∃ a, e = .returned (.agg (ecl p c n (.slice (some ⟨a, 0, none⟩) ts.length ts.length))) ∧ Own w' a (tsl ts).toArray 66 ∧ w.heap.size ≤ a ∧ Below w.heap.size w w' :=
  (toE_any p c n q cap ts hts hx w hR).mono fun e w' h => ⟨_, h.1, h.2.1, by omega, h.2.2⟩
set_option maxRecDepth 100000 in
set_option maxHeartbeats 2000000 in
theorem toDk_any (p c n : Int) (q : Option Addr) (cap : Nat) (ts : List Tm) (hts : ∀ t ∈ ts, t.2.1.length = 16) (hx : ts.length ≤ 1048576) (p' c' n' : Int) (q' : Option Addr) (cap' : Nat) (ts' : List Tm) (hts' : ∀ t ∈ ts', t.2.1.length = 16) (hx' : ts'.length ≤ 1048576) (w : World) (hR : RdT w q ts) (hR' : RdT w q' ts') :
    Calls Try.prog 16 #[.agg (dkl p c n (.slice q ts.length cap) p' c' n' (.slice q' ts'.length cap'))] w fun e w' => ∃ a b, e = .returned (.agg (dkl p c n (.slice (some ⟨a, 0, none⟩) ts.length ts.length) p' c' n' (.slice (some ⟨b, 0, none⟩) ts'.length ts'.length))) ∧ Own w' a (tsl ts).toArray 66 ∧ Own w' b (tsl ts').toArray 66 ∧ a ≠ b ∧ Below w.heap.size w w' := by
  have h1 := Lib.hid (fun w hR => toEx_any p c n q cap ts hts hx w hR)
  have h2 := Lib.hid (fun w hR => toEx_any p' c' n' q' cap' ts' hts' hx' w hR)
  have H1 := Lib.hid hR
  have H2 := Lib.hid hR'
  obtain ⟨l, hl⟩ : ∃ l, ts.length = l := ⟨_, rfl⟩
  obtain ⟨l', hl'⟩ : ∃ l, ts'.length = l := ⟨_, rfl⟩
  rw [hl] at h1 ⊢
  rw [hl'] at h2 ⊢
  have B3 := Lib.hid (fun (A B C : Obj) => bel3 w A B C)
  clear hR hR' hts hts' hx hx' hl hl'
  unfold ecl at h1 h2
  go_enter Try.func16, Try.ntmps16
  go_wp2_with (first
    | (refine wpList_load_at rfl 33 (.tmp 8) rfl ⟨w.heap.size, 4, none⟩ (by first | rfl | simp) _ _ hA2.dk2 Try.underlying33 rfl (by kernel_rfl) ?_)
    | (refine wpList_load_at rfl 33 (.tmp 4) rfl ⟨w.heap.size, 0, none⟩ (by first | rfl | simp) _ _ (Own.dk1 (((Own.new w _ _).alloc _).alloc _)) Try.underlying33 rfl (by kernel_rfl) ?_)
    | (go_at_call 20; ((with_reducible refine (h2.out w2 (H2.out.below b2)).mono ?_); rintro e w3 ⟨b3a, rfl, hT3, hb3, hB3⟩; have b3 := b2.trans (hB3.mono b2.size); have hC3 := hC2.below hB3 hC2.lt; have hD3 := hD2.below hB3 hD2.lt; have hS3 := hS2.below hB3 hS2.lt; have hne := hS2.lt; have hz2 := b2.size))
    | (go_at_call 20; ((with_reducible refine (h1.out _ (H1.out.below (B3.out _ _ _))).mono ?_); rintro e w1 ⟨a1, rfl, hT1, ha1, hB1⟩; simp only [World.size_alloc] at ha1; have b1 := (B3.out _ _ _).trans (hB1.mono (B3.out _ _ _).size); have hA1 : Own w1 w.heap.size (dkl p c n (.slice q l cap) p' c' n' (.slice q' l' cap')) 35 := (((Own.new w _ _).alloc _).alloc _).below hB1 (by simp <;> omega); have hC1 : Own w1 (w.heap.size + 1 + 1) (dkl 0 0 0 (.slice none 0 0) 0 0 0 (.slice none 0 0)) 26 := (Own.at _ _ _ (by simp)).below hB1 (by simp); have hD1 : Own w1 (w.heap.size + 1) (dkl 0 0 0 (.slice none 0 0) 0 0 0 (.slice none 0 0)) 26 := ((Own.at _ _ _ (by simp)).alloc _).below hB1 (by simp <;> omega)))
    | (refine wpList_store_part rfl 24 (.tmp 11) (.tmp 10) rfl (w.heap.size + 1 + 1) [Value.int .i64 p, .int .i64 c, .int .i64 n, Value.slice (some ⟨a1, 0, none⟩) l l] [Value.int .i64 0, .int .i64 0, .int .i64 0, .slice none 0 0] [] #[_, _, _, _] rfl rfl rfl 26 hC3 (by kernel_rfl) (by simp [Value.oneCell']) ?_; intro w4 hC4 hN4; have hD4 := hD3.only hN4 (by omega); have hS4 := hS3.only hN4 (by omega); have hT4 := hT3.only hN4 (by omega); have b4 := b3.trans (hN4.below.mono (by omega)))
    | (refine wpList_store_part rfl 24 (.tmp 7) (.tmp 6) rfl (w.heap.size + 1 + 1) [] [Value.int .i64 0, .int .i64 0, .int .i64 0, .slice none 0 0] [Value.int .i64 0, .int .i64 0, .int .i64 0, .slice none 0 0] #[_, _, _, _] rfl rfl rfl 26 hC1 (by kernel_rfl) (by simp [Value.oneCell']) ?_; intro w2 hC2 hN2; have hD2 := hD1.only hN2 (by omega); have hA2 := hA1.only hN2 (by omega); have hS2 := hT1.only hN2 (by omega); have b2 := b1.trans (hN2.below.mono (by omega)))
    | (refine wpList_load_row rfl 26 _ rfl _ rfl 26 _ (0, 0) _ hC4 Try.underlying26 rfl (by kernel_rfl) ?_)
    | (refine wpList_store_own rfl 26 _ _ rfl _ _ rfl rfl 26 _ hD4 (by kernel_rfl) rfl (by simp [Value.oneCell']) ?_; intro w5 hO5 hN5))
  refine bodyPost_ret (v := .agg (dkl p c n (.slice (some ⟨a1, 0, none⟩) l l) p' c' n' (.slice (some ⟨b3a, 0, none⟩) l' l'))) (results_cell_row rfl _ _ _ _ _ (0, 0) _ rfl hO5 Try.underlying26 rfl (by kernel_rfl)) rfl ⟨a1, b3a, rfl, hS4.only hN5 (by omega), hT4.only hN5 (by omega), by omega, b4.trans (hN5.below.mono (by omega))⟩
set_option maxRecDepth 100000 in
set_option maxHeartbeats 1000000 in
theorem eqDk_any (p c n : Int) (a b : Option Addr) (cap cap2 : Nat) (ts : List Tm) (hts : ∀ t ∈ ts, t.2.1.length = 16) (hx : ts.length ≤ 1048576) (p' c' n' : Int) (a' b' : Option Addr) (cap' cap2' : Nat) (ts' : List Tm) (hts' : ∀ t ∈ ts', t.2.1.length = 16) (hx' : ts'.length ≤ 1048576) (w : World) (hA : RdT w a ts) (hB : RdT w b ts) (hA' : RdT w a' ts') (hB' : RdT w b' ts') :
    Calls Try.prog 11 #[.agg (dkl p c n (.slice a ts.length cap) p' c' n' (.slice a' ts'.length cap')), .agg (dkl p c n (.slice b ts.length cap2) p' c' n' (.slice b' ts'.length cap2'))] w fun e w' => e = .returned (.bool true) ∧ Below w.heap.size w w' := by
  have h1 := Lib.hid (fun w hA hB => eqE_any p c n a b cap cap2 ts hts hx w hA hB)
  have h2 := Lib.hid (fun w hA hB => eqE_any p' c' n' a' b' cap' cap2' ts' hts' hx' w hA hB)
  have HA := Lib.hid hA
  have HB := Lib.hid hB
  have HA' := Lib.hid hA'
  have HB' := Lib.hid hB'
  obtain ⟨l, hl⟩ : ∃ l, ts.length = l := ⟨_, rfl⟩
  obtain ⟨l', hl'⟩ : ∃ l, ts'.length = l := ⟨_, rfl⟩
  rw [hl] at h1 ⊢
  rw [hl'] at h2 ⊢
  have o1 := Lib.hid ((Own.new w (dkl p c n (.slice a l cap) p' c' n' (.slice a' l' cap')) 26).alloc (.cells (dkl p c n (.slice b l cap2) p' c' n' (.slice b' l' cap2')) 26))
  have o2 := Lib.hid (Own.at (w.alloc (.cells (dkl p c n (.slice a l cap) p' c' n' (.slice a' l' cap')) 26)) (dkl p c n (.slice b l cap2) p' c' n' (.slice b' l' cap2')) 26 (by simp : _ = w.heap.size + 1))
  have b0 := Lib.hid (bel2 w (.cells (dkl p c n (.slice a l cap) p' c' n' (.slice a' l' cap')) 26) (.cells (dkl p c n (.slice b l cap2) p' c' n' (.slice b' l' cap2')) 26))
  clear hA hB hA' hB' hts hts' hx hx' hl hl'
  unfold ecl at h1 h2
  go_enter Try.func11, Try.ntmps11
  go_wp2_with (first
    | (refine wpList_load_at rfl 24 (.tmp 11) rfl ⟨w.heap.size, 4, none⟩ (by first | rfl | simp) _ _ (o1.out.below hB1 o1.out.lt).dk2 Try.underlying24 rfl (by kernel_rfl) ?_)
    | (refine wpList_load_at rfl 24 (.tmp 13) rfl ⟨w.heap.size + 1, 4, none⟩ (by first | rfl | simp) _ _ (o2.out.below hB1 o2.out.lt).dk2 Try.underlying24 rfl (by kernel_rfl) ?_)
    | (refine wpList_load_at rfl 24 (.tmp 5) rfl ⟨w.heap.size, 0, none⟩ (by first | rfl | simp) _ _ o1.out.dk1 Try.underlying24 rfl (by kernel_rfl) ?_)
    | (refine wpList_load_at rfl 24 (.tmp 7) rfl ⟨w.heap.size + 1, 0, none⟩ (by first | rfl | simp) _ _ o2.out.dk1 Try.underlying24 rfl (by kernel_rfl) ?_)
    | (go_at_call 22; ((with_reducible refine (h2.out w1 (HA'.out.below b1) (HB'.out.below b1)).mono ?_); rintro e w2 ⟨rfl, hB2⟩; have b2 := b1.trans (hB2.mono b1.size)))
    | (go_at_call 22; ((with_reducible refine (h1.out _ (HA.out.below b0.out) (HB.out.below b0.out)).mono ?_); rintro e w1 ⟨rfl, hB1⟩; have b1 := b0.out.trans (hB1.mono b0.out.size))))
  go_ret
  exact ⟨rfl, b2⟩
set_option maxRecDepth 100000 in
set_option maxHeartbeats 1000000 in
theorem dkI_any (p c n : Int) (q : Option Addr) (cap : Nat) (ts : List Tm) (hts : ∀ t ∈ ts, t.2.1.length = 16 ∧ Bytes t.2.1) (hx : ts.length ≤ 1048576) (p' c' n' : Int) (q' : Option Addr) (cap' : Nat) (ts' : List Tm) (hts' : ∀ t ∈ ts', t.2.1.length = 16 ∧ Bytes t.2.1) (hx' : ts'.length ≤ 1048576) (w : World) (hR : RdT w q ts) (hR' : RdT w q' ts') :
    Calls Try.prog 17 #[.agg (dkl p c n (.slice q ts.length cap) p' c' n' (.slice q' ts'.length cap'))] w fun e w' => e = .returned (.bool (cBo p c n ts p' c' n' ts' == 0)) ∧ Below w.heap.size w w' := by
  have h1 := Lib.hid (fun w hR hR' => codeI_any p c n q cap ts hts hx p' c' n' q' cap' ts' hts' hx' w hR hR')
  have H1 := Lib.hid hR
  have H2 := Lib.hid hR'
  obtain ⟨V, hV⟩ : ∃ V, cBo p c n ts p' c' n' ts' = V := ⟨_, rfl⟩
  rw [hV] at h1 ⊢
  obtain ⟨l, hl⟩ : ∃ l, ts.length = l := ⟨_, rfl⟩
  obtain ⟨l', hl'⟩ : ∃ l, ts'.length = l := ⟨_, rfl⟩
  rw [hl, hl'] at h1 ⊢
  have o1 := Lib.hid (Own.new w (dkl p c n (.slice q l cap) p' c' n' (.slice q' l' cap')) 26)
  have b0 := Lib.hid (bel1 w (.cells (dkl p c n (.slice q l cap) p' c' n' (.slice q' l' cap')) 26))
  clear hts hts' hx hx' hl hl' hV hR hR'
  unfold ecl at h1
  go_enter Try.func17, Try.ntmps17
  go_wp2_with (first
    | (refine wpList_load_at rfl 24 (.tmp 5) rfl ⟨w.heap.size, 4, none⟩ (by first | rfl | simp) _ _ o1.out.dk2 Try.underlying24 rfl (by kernel_rfl) ?_)
    | (refine wpList_load_at rfl 24 (.tmp 3) rfl ⟨w.heap.size, 0, none⟩ (by first | rfl | simp) _ _ o1.out.dk1 Try.underlying24 rfl (by kernel_rfl) ?_)
    | (go_at_call 35; ((with_reducible refine (h1.out _ (H1.out.below b0.out) (H2.out.below b0.out)).mono ?_); rintro e w1 ⟨rfl, hB1⟩; have b1 := b0.out.trans (hB1.mono b0.out.size))))
  go_ret
  exact ⟨rfl, b1⟩
set_option maxRecDepth 100000 in
set_option maxHeartbeats 1000000 in
theorem dkS_any (p c n : Int) (q : Option Addr) (cap : Nat) (ts : List Tm) (hts : ∀ t ∈ ts, t.2.1.length = 16 ∧ Bytes t.2.1) (hx : ts.length ≤ 1048576) (p' c' n' : Int) (q' : Option Addr) (cap' : Nat) (ts' : List Tm) (hts' : ∀ t ∈ ts', t.2.1.length = 16 ∧ Bytes t.2.1) (hx' : ts'.length ≤ 1048576) (hp0 : -9223372036854775808 ≤ p ∧ p ≤ 9223372036854775807) (hp0' : -9223372036854775808 ≤ p' ∧ p' ≤ 9223372036854775807) (w : World) (hR : RdT w q ts) (hR' : RdT w q' ts') :
    Calls Try.prog 15 #[.agg (dkl p c n (.slice q ts.length cap) p' c' n' (.slice q' ts'.length cap'))] w fun e w' => e = .returned (.bool (cBo p c n ts p' c' n' ts' == 0)) ∧ Below w.heap.size w w' := by
  have h1 := Lib.hid (fun w hR hR' => codeS_any p c n q cap ts hts hx p' c' n' q' cap' ts' hts' hx' hp0 hp0' w hR hR')
  have H1 := Lib.hid hR
  have H2 := Lib.hid hR'
  obtain ⟨V, hV⟩ : ∃ V, cBo p c n ts p' c' n' ts' = V := ⟨_, rfl⟩
  rw [hV] at h1 ⊢
  obtain ⟨l, hl⟩ : ∃ l, ts.length = l := ⟨_, rfl⟩
  obtain ⟨l', hl'⟩ : ∃ l, ts'.length = l := ⟨_, rfl⟩
  rw [hl, hl'] at h1 ⊢
  have o1 := Lib.hid (Own.new w (dkl p c n (.slice q l cap) p' c' n' (.slice q' l' cap')) 26)
  have b0 := Lib.hid (bel1 w (.cells (dkl p c n (.slice q l cap) p' c' n' (.slice q' l' cap')) 26))
  clear hts hts' hx hx' hl hl' hV hR hR'
  unfold ecl at h1
  go_enter Try.func15, Try.ntmps15
  go_wp2_with (first
    | (refine wpList_load_at rfl 24 (.tmp 5) rfl ⟨w.heap.size, 4, none⟩ (by first | rfl | simp) _ _ o1.out.dk2 Try.underlying24 rfl (by kernel_rfl) ?_)
    | (refine wpList_load_at rfl 24 (.tmp 3) rfl ⟨w.heap.size, 0, none⟩ (by first | rfl | simp) _ _ o1.out.dk1 Try.underlying24 rfl (by kernel_rfl) ?_)
    | (go_at_call 34; ((with_reducible refine (h1.out _ (H1.out.below b0.out) (H2.out.below b0.out)).mono ?_); rintro e w1 ⟨rfl, hB1⟩; have b1 := b0.out.trans (hB1.mono b0.out.size))))
  go_ret
  exact ⟨rfl, b1⟩
set_option maxRecDepth 100000 in
set_option maxHeartbeats 4000000 in
theorem isdk_walk (p c n : Int) (q : Option Addr) (cap : Nat) (ts : List Tm) (hts : ∀ t ∈ ts, t.2.1.length = 16 ∧ Bytes t.2.1) (p' c' n' : Int) (q' : Option Addr) (cap' : Nat) (ts' : List Tm) (hts' : ∀ t ∈ ts', t.2.1.length = 16 ∧ Bytes t.2.1) (hsum : ts.length + ts'.length ≤ 1048576) (hp0 : -9223372036854775808 ≤ p ∧ p ≤ 9223372036854775807) (hp0' : -9223372036854775808 ≤ p' ∧ p' ≤ 9223372036854775807) (w : World) (hR : RdT w q ts) (hR' : RdT w q' ts') :
    Calls Try.prog 4 #[.agg (dkl p c n (.slice q ts.length cap) p' c' n' (.slice q' ts'.length cap'))] w fun e w' => e = .returned (.bool true) ∧ Below w.heap.size w w' := by
  have hx : ts.length ≤ 1048576 := by omega
  have hx' : ts'.length ≤ 1048576 := by omega
  have h16 : ∀ t ∈ ts, t.2.1.length = 16 := fun t h => (hts t h).1
  have h16' : ∀ t ∈ ts', t.2.1.length = 16 := fun t h => (hts' t h).1
  have hsz := Lib.hid (fun w => szDk_any p c n q ts.length cap p' c' n' q' ts'.length cap' w (by unfold maxLen; omega) (by unfold maxLen; omega))
  rw [if_neg (by omega)] at hsz
  have hto := Lib.hid (fun w hR hR' => toDk_any p c n q cap ts h16 hx p' c' n' q' cap' ts' h16' hx' w hR hR')
  have hS := Lib.hid (fun (a b : Nat) (w : World) (hO : Own w a (tsl ts).toArray 66) (hO' : Own w b (tsl ts').toArray 66) => dkS_any p c n (some ⟨a, 0, none⟩) ts.length ts hts hx p' c' n' (some ⟨b, 0, none⟩) ts'.length ts' hts' hx' hp0 hp0' w (hO.rdT h16) (hO'.rdT h16'))
  have hI := Lib.hid (fun (a b : Nat) (w : World) (hO : Own w a (tsl ts).toArray 66) (hO' : Own w b (tsl ts').toArray 66) => dkI_any p c n (some ⟨a, 0, none⟩) ts.length ts hts hx p' c' n' (some ⟨b, 0, none⟩) ts'.length ts' hts' hx' w (hO.rdT h16) (hO'.rdT h16'))
  have heq := Lib.hid (fun (a b a' b' : Nat) (w : World) (hA : Own w a (tsl ts).toArray 66) (hB : Own w b (tsl ts).toArray 66) (hA' : Own w a' (tsl ts').toArray 66) (hB' : Own w b' (tsl ts').toArray 66) => eqDk_any p c n (some ⟨a, 0, none⟩) (some ⟨b, 0, none⟩) ts.length ts.length ts h16 hx p' c' n' (some ⟨a', 0, none⟩) (some ⟨b', 0, none⟩) ts'.length ts'.length ts' h16' hx' w (hA.rdT h16) (hB.rdT h16) (hA'.rdT h16') (hB'.rdT h16'))
  have H1 := Lib.hid hR
  have H2 := Lib.hid hR'
  obtain ⟨r, hr⟩ : ∃ r, (cBo p c n ts p' c' n' ts' == 0) = r := ⟨_, rfl⟩
  rw [hr] at hS hI
  obtain ⟨l, hl⟩ : ∃ l, ts.length = l := ⟨_, rfl⟩
  obtain ⟨l', hl'⟩ : ∃ l, ts'.length = l := ⟨_, rfl⟩
  rw [hl, hl'] at hsz hto hS hI heq ⊢
  obtain ⟨z, hz⟩ : ∃ z : Int, 1048576 - (l : Int) - l' = z := ⟨_, rfl⟩
  have hlz : ¬ (z < 0) := by omega
  rw [hz] at hsz
  clear hr hl hl' hR hR' h16 h16' hts hts' hz hsum hx hx'
  go_enter Try.func4, Try.ntmps4
  cases r
  all_goals
    go_wp2_with (first
      | (go_at_call 14; ((with_reducible refine (hsz.out _).mono ?_); rintro e w1 ⟨rfl, hB1⟩; have b1 := ((Below.refl w.heap.size w).alloc (Nat.le_refl _) _).trans (hB1.mono (by simp)); have hA1 := (Own.new w (dkl p c n (.slice q l cap) p' c' n' (.slice q' l' cap')) 35).below hB1 (by simp)))
      | (go_at_call 16; ((with_reducible refine (hto.out w3 (H1.out.below b3) (H2.out.below b3)).mono ?_); rintro e w4 ⟨a4, c4, rfl, hO4, hP4, hn4, hB4⟩; have b4 := b3.trans (hB4.mono b3.size); have hA4 := hA3.below hB4 hA3.lt))
      | (go_at_call 16; ((with_reducible refine (hto.out w1 (H1.out.below b1) (H2.out.below b1)).mono ?_); rintro e w2 ⟨a2, c2, rfl, hO2, hP2, hn2, hB2⟩; have b2 := b1.trans (hB2.mono b1.size); have hA2 := hA1.below hB2 hA1.lt))
      | (go_at_call 15; ((with_reducible refine (hS.out _ _ w2 hO2 hP2).mono ?_); rintro e w3 ⟨rfl, hB3⟩; have b3 := b2.trans (hB3.mono b2.size); have hA3 := hA2.below hB3 hA2.lt))
      | (refine wpList_store_own rfl 26 _ _ rfl _ _ rfl rfl 26 _ (Own.new w4 _ _) (by kernel_rfl) rfl (by simp [dkl, Value.oneCell']) ?_; intro w5a hO5 hN5; have b5a := (b4.alloc b4.size _).trans (hN5.below.mono b4.size); have hA5a := (hA4.alloc _).only hN5 (Nat.ne_of_lt hA4.lt); have hT5 := (hO4.alloc _).only hN5 (Nat.ne_of_lt hO4.lt); have hU5 := (hP4.alloc _).only hN5 (Nat.ne_of_lt hP4.lt))
      | (refine wpList_load_row rfl 35 _ rfl _ rfl 35 _ (0, 0) _ hA4 Try.underlying35 rfl (by kernel_rfl) ?_)
      | (refine wpList_load_row rfl 35 _ rfl _ rfl 35 _ (0, 0) _ hA3 Try.underlying35 rfl (by kernel_rfl) ?_)
      | (refine wpList_load_row rfl 35 _ rfl _ rfl 35 _ (0, 0) _ hA1 Try.underlying35 rfl (by kernel_rfl) ?_)
      | (refine wpList_load_row rfl 35 _ rfl _ rfl 35 _ (0, 0) _ (Own.new w _ _) Try.underlying35 rfl (by kernel_rfl) ?_)
      | (refine wpList_load_row rfl 26 _ rfl _ rfl 26 _ (0, 0) _ hO5 Try.underlying26 rfl (by kernel_rfl) ?_)
      | (go_at_call 17; ((with_reducible refine (hI.out _ _ w5a hT5 hU5).mono ?_); rintro e w5 ⟨rfl, hB5⟩; have b5 := b5a.trans (hB5.mono b5a.size); have hA5 := hA5a.below hB5 hA5a.lt; have hX5 := hO5.below hB5 hO5.lt; have hT5b := hT5.below hB5 hT5.lt; have hU5b := hU5.below hB5 hU5.lt)))
    have hXc := Lib.hid (fun wd (hd : Below w5.heap.size w5 wd) => hX5.below hd hX5.lt)
    have hAc := Lib.hid (fun wd (hd : Below w5.heap.size w5 wd) => hA5.below hd hA5.lt)
    refine wp_region_on (fun w' => Below w5.heap.size w5 w') [0, 1] [2] 3 (by kernel_rfl) (by kernel_rfl) (Below.drewN (Below.refl _ _) 1) ?_
    simp only [List.map_cons, List.map_nil, opN_zero, opN_succ, List.drop_succ_cons, List.drop_zero]
    (apply wpOn_step; · (intro wd hS' K hK; rw [if_pos (by rfl)]; refine still_load_row 26 (.tmp 5) rfl w4.heap.size rfl 26 _ _ (hXc.out wd hS') Try.underlying26 rfl (by kernel_rfl) ?_; exact hK))
    (apply wpOn_step; · (intro wd hS' K hK; rw [if_pos (by rfl)]; refine still_load_row 35 (.tmp 1) rfl w.heap.size rfl 35 _ _ (hAc.out wd hS') Try.underlying35 rfl (by kernel_rfl) ?_; exact hK))
    refine wpOn_nil ?_
    intro w8 hB8
    have b8 := b5.trans (hB8.mono b5.size)
    have hT8 := hT5b.below hB8 hT5b.lt
    have hU8 := hU5b.below hB8 hU5b.lt
    refine wpMid_step (fun K hK => ?_)
    go_wp2_with (first
      | (go_at_call 16; ((with_reducible refine (hto.out w8 (H1.out.below b8) (H2.out.below b8)).mono ?_); rintro e w9 ⟨a9, c9, rfl, hO9, hP9, hn9, hB9⟩; have b9 := b8.trans (hB9.mono b8.size); have hT9 := hT8.below hB9 hT8.lt; have hU9 := hU8.below hB9 hU8.lt)))
    refine hK _ _ (hB8.trans (hB9.mono hB8.size)) ?_
    clear hK K
    refine wpMid_nil ?_
    go_wp2_with (first
      | (go_at_call 11; ((with_reducible refine (heq.out _ _ _ _ w9 hT9 hO9 hU9 hP9).mono ?_); rintro e w10 ⟨rfl, hB10⟩; have b10 := b9.trans (hB10.mono b9.size))))
    go_ret
    exact ⟨rfl, b10⟩
theorem isdk_big (p c n : Int) (q : Option Addr) (len cap : Nat) (p' c' n' : Int) (q' : Option Addr) (len' cap' : Nat) (w : World) (hm : len ≤ maxLen) (hm' : len' ≤ maxLen) (h : 1048576 < len + len') : Calls Try.prog 4 #[.agg (dkl p c n (.slice q len cap) p' c' n' (.slice q' len' cap'))] w fun e w' => e = .returned (.bool true) ∧ Below w.heap.size w w' := by
  have hsz := Lib.hid (fun w => szDk_any p c n q len cap p' c' n' q' len' cap' w hm hm')
  rw [if_pos (by omega)] at hsz
  clear h hm hm'
  go_enter Try.func4, Try.ntmps4
  go_wp2_with (first
      | (go_at_call 14; ((with_reducible refine (hsz.out _).mono ?_); rintro e w1 ⟨rfl, hB1⟩; have b1 := ((Below.refl w.heap.size w).alloc (Nat.le_refl _) _).trans (hB1.mono (by simp))))
      | (refine wpList_load_row rfl 35 _ rfl _ rfl 35 _ (0, 0) _ (Own.new w _ _) Try.underlying35 rfl (by kernel_rfl) ?_))
  go_ret
  exact ⟨rfl, b1⟩
theorem isdk_law (p c n : Int) (q : Option Addr) (cap : Nat) (ts : List Tm) (hts : ∀ t ∈ ts, OkTm t) (hm : ts.length ≤ maxLen) (p' c' n' : Int) (q' : Option Addr) (cap' : Nat) (ts' : List Tm) (hts' : ∀ t ∈ ts', OkTm t) (hm' : ts'.length ≤ maxLen) (hp0 : -9223372036854775808 ≤ p ∧ p ≤ 9223372036854775807) (hp0' : -9223372036854775808 ≤ p' ∧ p' ≤ 9223372036854775807) (w : World) (hR : RdT w q ts) (hR' : RdT w q' ts') :
    Calls Try.prog 4 #[.agg (dkl p c n (.slice q ts.length cap) p' c' n' (.slice q' ts'.length cap'))] w fun e w' => e = .returned (.bool true) ∧ Below w.heap.size w w' := by
  by_cases h : ts.length + ts'.length ≤ 1048576
  · exact isdk_walk p c n q cap ts (fun t ht => hts t ht) p' c' n' q' cap' ts' (fun t ht => hts' t ht) h hp0 hp0' w hR hR'
  · exact isdk_big p c n q ts.length cap p' c' n' q' ts'.length cap' w hm hm' (by omega)
end Go.Proofs.Ytdmgmhjclagnpaa
