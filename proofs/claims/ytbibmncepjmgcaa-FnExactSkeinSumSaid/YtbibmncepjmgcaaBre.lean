/- The element of a braid word: the program's crossings. -/
import Derived.Test.YtbibmncepjmgcaaBrm
import Derived.Test.YtbibmncepjmgcaaKh
import Derived.Test.YtbibmncepjmgcaaKf
import Derived.Test.YtbibmncepjmgcaaPoe
namespace Go.Proofs.Ytbibmncepjmgcaa
open Go.RowKit Go.Lib
set_option linter.unusedVariables false
set_option linter.unusedSimpArgs false
/-- The cells of a skein. -/
def skv (a b p c n : Int) : Array Value := #[.int .i64 a, .int .i64 b, .int .i64 p, .int .i64 c, .int .i64 n, .slice none 0 0]
theorem skv_like {w : World} {g : Nat} {a b p c n : Int} (h : Own w g #[.int .i64 a, .int .i64 b, .int .i64 p, .int .i64 c, .int .i64 n, .slice none 0 0] 71) : w.rangeAt g 2 [.int .i64 p, .int .i64 c, .int .i64 n, .slice none 0 0] :=
  Own.part (A := [.int .i64 a, .int .i64 b]) (B := [.int .i64 p, .int .i64 c, .int .i64 n, .slice none 0 0]) (C := []) h
/-- The element of a result. -/
def EPost (w : World) (p c n : Int) (L : List Tm) (e : Ending) (w' : World) : Prop :=
  (∃ q cp, e = .returned (.agg (ecl p c n (.slice q L.length cp))) ∧ Res w' w.heap.size q L) ∧ Below w.heap.size w w'
set_option maxRecDepth 100000 in
set_option maxHeartbeats 4000000 in
theorem elemI_any (a b p c n : Int) (u nn : Nat) (L : List Tm) (w : World) (hM : Smp w u nn L) (hG : GoodT p L) (hp2 : p ≤ 97) (hL : L.length ≤ 140) :
    Calls Try.prog 93 #[.agg (skv a b p c n), .map (some u)] w fun e w' => (∃ q cp, e = .returned (.agg (ecl p c n (.slice q L.length cp))) ∧ Res w' w.heap.size q L) ∧ Below w.heap.size w w' := by
  have heos := Lib.hid (fun W (h : Smp W u nn L) => (eos_any p c n none 0 0 u nn p L W h hG hp2 hL).mono (fun e w' h => show (∃ q cp, e = .returned (.tuple #[.agg (ecl p c n (.slice q L.length cp)), .int .i64 0]) ∧ Res w' W.heap.size q L) ∧ Below W.heap.size W w' from by
    obtain ⟨qt, mt, ct, rfl, hT, hB⟩ := h
    obtain ⟨rfl, hr⟩ := hT.res
    exact ⟨⟨qt, ct, rfl, hr⟩, hB⟩))
  have hM' := Lib.hid (fun A B => (hM.alloc A).alloc B)
  obtain ⟨l, hl⟩ : ∃ l, L.length = l := ⟨_, rfl⟩
  rw [hl] at heos ⊢
  clear hM hG hL hl
  unfold skv
  unfold ecl at *
  go_enter Try.func93, Try.ntmps93
  go_wp2_with (first
    | (refine wpList_load_part rfl 30 (.tmp 8) rfl w.heap.size 2 rfl #[.int .i64 p, .int .i64 c, .int .i64 n, .slice none 0 0] _ (skv_like ((Own.new w _ _).alloc _)) Try.underlying30 rfl (by kernel_rfl) ?_)
    | (go_at_call 114; ((with_reducible refine (heos.out _ (hM'.out _ _)).mono ?_); rintro e w3 ⟨⟨q, cp, rfl, hr⟩, hB3⟩; have oR3 := (Own.at (w.alloc (.cells #[.int .i64 a, .int .i64 b, .int .i64 p, .int .i64 c, .int .i64 n, .slice none 0 0] 71)) #[.int .i64 0, .int .i64 0, .int .i64 0, .slice none 0 0] 30 (by simp : _ = w.heap.size + 1)).below hB3 (by simp); have b3 : Below w.heap.size w w3 := (((Below.refl w.heap.size w).alloc (Nat.le_refl _) (.cells #[.int .i64 a, .int .i64 b, .int .i64 p, .int .i64 c, .int .i64 n, .slice none 0 0] 71)).alloc (by simp) (.cells #[.int .i64 0, .int .i64 0, .int .i64 0, .slice none 0 0] 30)).trans (hB3.mono (by simp; omega)); have r3 : Res w3 w.heap.size q L := hr.weak (by simp; omega); clear hr hB3))
    | (refine wpList_store_own rfl 30 _ _ rfl _ _ rfl rfl 30 _ (Own.new w3 _ _) (by kernel_rfl) rfl (by simp [Value.oneCell']) ?_; intro w4 oE4 hN4; have oR4 := (oR3.alloc (.cells #[.int .i64 0, .int .i64 0, .int .i64 0, .slice none 0 0] 30)).only hN4 (by have := oR3.lt; omega); have b4 : Below w.heap.size w w4 := (b3.alloc b3.size _).trans (hN4.below.mono b3.size); have r4 : Res w4 w.heap.size q L := Res.nl2 (r3.al _) hN4 (Own.new _ _ _))
    | (refine wpList_load_row rfl 30 _ rfl _ rfl 30 _ (0, 0) _ oE4 Try.underlying30 rfl (by kernel_rfl) ?_)
    | (refine wpList_store_own rfl 30 _ _ rfl _ _ rfl rfl 30 _ oR4 (by kernel_rfl) rfl (by simp [Value.oneCell']) ?_; intro w5 oR5 hN5))
  refine bodyPost_ret (v := .agg #[.int .i64 p, .int .i64 c, .int .i64 n, .slice q l cp]) (results_cell_row rfl _ _ _ _ _ (0, 0) _ rfl oR5 Try.underlying30 rfl (by kernel_rfl)) rfl ⟨⟨q, cp, rfl, Res.nl2 r4 hN5 oR4⟩, b4.trans (hN5.below.mono (by omega))⟩
theorem one_lt {n : Int} (h1 : 1 ≤ n) (h8 : n ≤ 8) : VD (n, oneL n n.toNat) := one_vd h1 h8
set_option maxRecDepth 100000 in
set_option maxHeartbeats 8000000 in
theorem smoI_any (a b p c n s t i : Int) (hp : 2 ≤ p) (hp2 : p ≤ 97) (h2 : 2 ≤ n) (h8 : n ≤ 8) (h0 : 0 ≤ i) (hi : i ≤ n - 2) (hs : 0 ≤ s ∧ s ≤ 100) (ht : 0 ≤ t ∧ t ≤ 100) (w : World) :
    Calls Try.prog 113 #[.agg (skv a b p c n), .int .i64 s, .int .i64 t, .int .i64 i] w fun e w' => (∃ q cp, e = .returned (.agg (ecl p c n (.slice q (crN p n i s t).length cp))) ∧ Res w' w.heap.size q (crN p n i s t)) ∧ Below w.heap.size w w' := by
  have hok := crN_ok (p := p) (s := s) (t := t) hp h2 h8 h0 hi
  have g1 : GoodT p (addT p (n, oneL n n.toNat) s []) := add_good linD (by omega) (one_vd (by omega) h8) (Good.nil p)
  have hun := Lib.hid (fun w => unitI_ok n w (by omega) h8)
  have hgn := Lib.hid (fun w => show Calls Try.prog 37 #[.int .i64 n, .int .i64 i] w fun e w' => e = .returned (.tuple #[.agg (dcells n (cupL n i)), .int .i64 0]) ∧ Below w.heap.size w w' from by
    exact genI_ok n i w h2 h8 h0 hi)
  have ha1 := Lib.hid (fun u W h => add_any u 0 [] p s n (oneL n n.toNat) W h (Good.nil p) (one_vd (by omega) h8) hp hp2 (by omega) (by omega) (by omega))
  have ha2 := Lib.hid (fun u W h => add_any u (0 + 1) (addT p (n, oneL n n.toNat) s []) p t n (cupL n i) W h g1 (cup_vd h2 h8 h0 hi) hp hp2 (by omega) (by omega) (by omega))
  have hel := Lib.hid (fun u W h => elemI_any a b p c n u (0 + 1 + 1) (crN p n i s t) W h hok.1 hp2 hok.2.2)
  have hc2 : addT p (n, cupL n i) t (addT p (n, oneL n n.toNat) s []) = crN p n i s t := rfl
  rw [hc2] at ha2
  obtain ⟨R, hR⟩ : ∃ R, crN p n i s t = R := ⟨_, rfl⟩
  rw [hR] at ha2 hel ⊢
  obtain ⟨R1, hR1⟩ : ∃ R, addT p (n, oneL n n.toNat) s [] = R := ⟨_, rfl⟩
  rw [hR1] at ha1 ha2
  have hl1 := Lib.hid (oneL_len n n.toNat)
  have hl2 := Lib.hid (cupL_len n i)
  obtain ⟨U, hU⟩ : ∃ U, oneL n n.toNat = U := ⟨_, rfl⟩
  obtain ⟨V, hV⟩ : ∃ V, cupL n i = V := ⟨_, rfl⟩
  rw [hU] at hun ha1 hl1
  rw [hV] at hgn ha2 hl2
  obtain ⟨l, hl⟩ : ∃ l, R.length = l := ⟨_, rfl⟩
  rw [hl] at hel ⊢
  have hmk : ∀ w : World, (Instr.makeMap 64 none).run Try.prog w = .ok (.map (some w.heap.size)) (w.alloc (.map #[] 0)) := fun w => rfl
  clear hok g1 hc2 hR hR1 hU hV hl
  unfold skv at *
  unfold ecl at *
  go_enter Try.func113, Try.ntmps113
  go_upto_region 3 with (first
    | (go_at_call 92; ((with_reducible refine (hun.out _).mono ?_); rintro e w2 ⟨rfl, hB2⟩; have oS2 := ((Own.new w #[.int .i64 a, .int .i64 b, .int .i64 p, .int .i64 c, .int .i64 n, .slice none 0 0] 71).alloc (.cells #[.int .i64 0, .int .i64 0, .int .i64 0, .slice none 0 0] 30)).below hB2 (by simp; omega); have oR2 := (Own.at (w.alloc (.cells #[.int .i64 a, .int .i64 b, .int .i64 p, .int .i64 c, .int .i64 n, .slice none 0 0] 71)) #[.int .i64 0, .int .i64 0, .int .i64 0, .slice none 0 0] 30 (by simp : _ = w.heap.size + 1)).below hB2 (by simp); have b2 : Below w.heap.size w w2 := (((Below.refl w.heap.size w).alloc (Nat.le_refl _) (.cells #[.int .i64 a, .int .i64 b, .int .i64 p, .int .i64 c, .int .i64 n, .slice none 0 0] 71)).alloc (by simp) (.cells #[.int .i64 0, .int .i64 0, .int .i64 0, .slice none 0 0] 30)).trans (hB2.mono (by simp; omega)); clear hB2))
    | (go_at_call 37; ((with_reducible refine (hgn.out w3).mono ?_); rintro e w4 ⟨rfl, hB4⟩; have oS4 := oS3.below hB4 oS3.lt; have oR4 := oR3.below hB4 oR3.lt; have oD4 := oD3.below hB4 oD3.lt; have b4 := b3.trans (hB4.mono b3.size)))
    | (refine wpList_store_own rfl 53 _ _ rfl _ _ rfl rfl 53 _ (Own.new w2 _ _) (row26 (d17 _ _ hl1.out)) (z_eq (d17 _ _ hl1.out)) (dcells_one _ _) ?_; intro w3 oD3 hN3; have oS3 := (oS2.alloc _).only hN3 (by have := oS2.lt; omega); have oR3 := (oR2.alloc _).only hN3 (by have := oR2.lt; omega); have b3 : Below w.heap.size w w3 := (b2.alloc b2.size _).trans (hN3.below.mono b2.size); have x4 : w3.cell? ⟨w.heap.size, 4, none⟩ = some (.int .i64 n) := oS3.cell 4)
    | (refine wpList_store_own rfl 53 _ _ rfl _ _ rfl rfl 53 _ (Own.new w4 _ _) (row26 (d17 _ _ hl2.out)) (z_eq (d17 _ _ hl2.out)) (dcells_one _ _) ?_; intro w5 oF5 hN5; have oS5 := (oS4.alloc _).only hN5 (by have := oS4.lt; omega); have oR5 := (oR4.alloc _).only hN5 (by have := oR4.lt; omega); have oD5 := (oD4.alloc _).only hN5 (by have := oD4.lt; omega); have b5 : Below w.heap.size w w5 := (b4.alloc b4.size _).trans (hN5.below.mono b4.size)))
  have d9 : w2.heap.size < w4.heap.size := oD4.lt
  have dS := oS2.lt
  have dR := oR2.lt
  obtain ⟨d1, hd1⟩ : ∃ d, w2.heap.size = d := ⟨_, rfl⟩
  obtain ⟨d2, hd2⟩ : ∃ d, w4.heap.size = d := ⟨_, rfl⟩
  rw [hd1] at oD5 d9 dS dR ⊢
  rw [hd2] at oF5 d9 ⊢
  clear oS2 oR2 b2 oD3 hN3 oS3 oR3 b3 x4 oS4 oR4 oD4 b4 hB4 hN5 hd1 hd2
  go_upto_region 4 with fail
  have ls := b5.size
  have lf := oF5.lt
  have oS6 := oS5.alloc (.map #[] 0)
  have oR6 := oR5.alloc (.map #[] 0)
  have oD6 := oD5.alloc (.map #[] 0)
  have oF6 := oF5.alloc (.map #[] 0)
  have sM6 := Smp.new w5
  have b6 := b5.alloc b5.size (.map #[] 0)
  obtain ⟨u, hu⟩ : ∃ u, w5.heap.size = u := ⟨_, rfl⟩
  rw [hu] at sM6 ls lf ⊢
  have lu : u < (w5.alloc (.map #[] 0)).heap.size := sM6.lt
  clear oS5 oR5 oD5 oF5 b5 hu
  generalize w5.alloc (.map #[] 0) = w6 at *
  have x2 : w6.cell? ⟨w.heap.size, 2, none⟩ = some (.int .i64 p) := oS6.cell 2
  go_wp2_with (first
    | (refine wpList_load_row rfl 53 _ rfl _ rfl 53 _ (0, 0) _ (oD6) Try.underlying53 rfl (row26 (d17 _ _ (hl1.out))) ?_)
    | (refine wpList_load_row rfl 53 _ rfl _ rfl 53 _ (0, 0) _ (oF7) Try.underlying53 rfl (row26 (d17 _ _ (hl2.out))) ?_)
    | (go_at_call 81; ((with_reducible refine (ha1.out u w6 sM6).mono ?_); rintro e w7 ⟨rfl, sM7, hG7⟩; have oS7 := oS6.grown hG7 (by omega); have oR7 := oR6.grown hG7 (by omega); have oF7 := oF6.grown hG7 (by omega); have b7 := b6.grown hG7 b6.size (fun k e => by injection e with e; omega); have y2 : w7.cell? ⟨w.heap.size, 2, none⟩ = some (.int .i64 p) := oS7.cell 2))
    | (go_at_call 81; ((with_reducible refine (ha2.out u w7 sM7).mono ?_); rintro e w8 ⟨rfl, sM8, hG8⟩; have oS8 := oS7.grown hG8 (by omega); have oR8 := oR7.grown hG8 (by omega); have b8 := b7.grown hG8 b7.size (fun k e => by injection e with e; omega)))
    | (refine wpList_load_row rfl 71 _ rfl _ rfl 71 _ (0, 0) _ oS8 Try.underlying71 rfl (by kernel_rfl) ?_)
    | (go_at_call 93; ((with_reducible refine (hel.out u w8 sM8).mono ?_); rintro e w9 ⟨⟨q, cp, rfl, hr⟩, hB9⟩; have oR9 := oR8.below hB9 oR8.lt; have b9 := b8.trans (hB9.mono b8.size); have r9 := hr.weak b8.size))
    | (refine wpList_store_own rfl 30 _ _ rfl _ _ rfl rfl 30 _ oR9 (by kernel_rfl) rfl (by simp [Value.oneCell']) ?_; intro w5 oR5 hN5))
  refine bodyPost_ret (v := .agg #[.int .i64 p, .int .i64 c, .int .i64 n, .slice q l cp]) (results_cell_row rfl _ _ _ _ _ (0, 0) _ rfl oR5 Try.underlying30 rfl (by kernel_rfl)) rfl ⟨⟨q, cp, rfl, Res.nl2 r9 hN5 oR9⟩, b9.trans (hN5.below.mono (by omega))⟩
set_option maxRecDepth 100000 in
set_option maxHeartbeats 4000000 in
theorem croI_any (a b p c n i : Int) (hp : 2 ≤ p) (hp2 : p ≤ 97) (h2 : 2 ≤ n) (h8 : n ≤ 8) (h0 : 0 ≤ i) (hi : i ≤ n - 2) (ha : 0 ≤ a ∧ a ≤ 100) (hb : 0 ≤ b ∧ b ≤ 100) (w : World) :
    Calls Try.prog 90 #[.agg (skv a b p c n), .int .i64 i] w fun e w' => (∃ q cp, e = .returned (.agg (ecl p c n (.slice q (crN p n i a b).length cp))) ∧ Res w' w.heap.size q (crN p n i a b)) ∧ Below w.heap.size w w' := by
  have hsm := Lib.hid (fun w => smoI_any a b p c n a b i hp hp2 h2 h8 h0 hi ha hb w)
  obtain ⟨R, hR⟩ : ∃ R, crN p n i a b = R := ⟨_, rfl⟩
  rw [hR] at hsm ⊢
  obtain ⟨l, hl⟩ : ∃ l, R.length = l := ⟨_, rfl⟩
  rw [hl] at hsm ⊢
  clear hR hl hp hp2 h2 h8 h0 hi ha hb
  unfold skv at *
  unfold ecl at *
  go_enter Try.func90, Try.ntmps90
  go_wp2_with (first
    | (refine wpList_load_row rfl 71 _ rfl _ rfl 71 _ (0, 0) _ ((Own.new w _ _).alloc _) Try.underlying71 rfl (by kernel_rfl) ?_)
    | (go_at_call 113; ((with_reducible refine (hsm.out _).mono ?_); rintro e w2 ⟨⟨q, cp, rfl, hr⟩, hB2⟩; have oR2 := (Own.at (w.alloc (.cells #[.int .i64 a, .int .i64 b, .int .i64 p, .int .i64 c, .int .i64 n, .slice none 0 0] 71)) #[.int .i64 0, .int .i64 0, .int .i64 0, .slice none 0 0] 30 (by simp : _ = w.heap.size + 1)).below hB2 (by simp); have b2 : Below w.heap.size w w2 := (((Below.refl w.heap.size w).alloc (Nat.le_refl _) (.cells #[.int .i64 a, .int .i64 b, .int .i64 p, .int .i64 c, .int .i64 n, .slice none 0 0] 71)).alloc (by simp) (.cells #[.int .i64 0, .int .i64 0, .int .i64 0, .slice none 0 0] 30)).trans (hB2.mono (by simp; omega)); have r2 : Res w2 w.heap.size q R := hr.weak (by simp; omega); clear hr hB2))
    | (refine wpList_store_own rfl 30 _ _ rfl _ _ rfl rfl 30 _ oR2 (by kernel_rfl) rfl (by simp [Value.oneCell']) ?_; intro w5 oR5 hN5))
  refine bodyPost_ret (v := .agg #[.int .i64 p, .int .i64 c, .int .i64 n, .slice q l cp]) (results_cell_row rfl _ _ _ _ _ (0, 0) _ rfl oR5 Try.underlying30 rfl (by kernel_rfl)) rfl ⟨⟨q, cp, rfl, Res.nl2 r2 hN5 oR2⟩, b2.trans (hN5.below.mono (by omega))⟩
set_option maxRecDepth 100000 in
set_option maxHeartbeats 4000000 in
theorem invI_any (a b p c n i : Int) (hp : 2 ≤ p) (hp2 : p ≤ 97) (h2 : 2 ≤ n) (h8 : n ≤ 8) (h0 : 0 ≤ i) (hi : i ≤ n - 2) (ha : 0 ≤ a ∧ a ≤ 100) (hb : 0 ≤ b ∧ b ≤ 100) (w : World) :
    Calls Try.prog 91 #[.agg (skv a b p c n), .int .i64 i] w fun e w' => (∃ q cp, e = .returned (.agg (ecl p c n (.slice q (crN p n i b a).length cp))) ∧ Res w' w.heap.size q (crN p n i b a)) ∧ Below w.heap.size w w' := by
  have hsm := Lib.hid (fun w => smoI_any a b p c n b a i hp hp2 h2 h8 h0 hi hb ha w)
  obtain ⟨R, hR⟩ : ∃ R, crN p n i b a = R := ⟨_, rfl⟩
  rw [hR] at hsm ⊢
  obtain ⟨l, hl⟩ : ∃ l, R.length = l := ⟨_, rfl⟩
  rw [hl] at hsm ⊢
  clear hR hl hp hp2 h2 h8 h0 hi ha hb
  unfold skv at *
  unfold ecl at *
  go_enter Try.func91, Try.ntmps91
  go_wp2_with (first
    | (refine wpList_load_row rfl 71 _ rfl _ rfl 71 _ (0, 0) _ ((Own.new w _ _).alloc _) Try.underlying71 rfl (by kernel_rfl) ?_)
    | (go_at_call 113; ((with_reducible refine (hsm.out _).mono ?_); rintro e w2 ⟨⟨q, cp, rfl, hr⟩, hB2⟩; have oR2 := (Own.at (w.alloc (.cells #[.int .i64 a, .int .i64 b, .int .i64 p, .int .i64 c, .int .i64 n, .slice none 0 0] 71)) #[.int .i64 0, .int .i64 0, .int .i64 0, .slice none 0 0] 30 (by simp : _ = w.heap.size + 1)).below hB2 (by simp); have b2 : Below w.heap.size w w2 := (((Below.refl w.heap.size w).alloc (Nat.le_refl _) (.cells #[.int .i64 a, .int .i64 b, .int .i64 p, .int .i64 c, .int .i64 n, .slice none 0 0] 71)).alloc (by simp) (.cells #[.int .i64 0, .int .i64 0, .int .i64 0, .slice none 0 0] 30)).trans (hB2.mono (by simp; omega)); have r2 : Res w2 w.heap.size q R := hr.weak (by simp; omega); clear hr hB2))
    | (refine wpList_store_own rfl 30 _ _ rfl _ _ rfl rfl 30 _ oR2 (by kernel_rfl) rfl (by simp [Value.oneCell']) ?_; intro w5 oR5 hN5))
  refine bodyPost_ret (v := .agg #[.int .i64 p, .int .i64 c, .int .i64 n, .slice q l cp]) (results_cell_row rfl _ _ _ _ _ (0, 0) _ rfl oR5 Try.underlying30 rfl (by kernel_rfl)) rfl ⟨⟨q, cp, rfl, Res.nl2 r2 hN5 oR2⟩, b2.trans (hN5.below.mono (by omega))⟩
theorem crsI_any (x : Int) (w : World) (h : -100 ≤ x ∧ x ≤ 100) : Calls Try.prog 94 #[.int .i64 x] w fun e w' => e = .returned (.int .i64 (max x (-x) - 1)) ∧ w' = w := by
  have e1 : IntKind.i64.wrap (-x) = -x := IntWalk.i64_in _ (by omega)
  by_cases hx : x < -x
  · have e2 : max x (-x) = -x := by omega
    rw [e2]
    go_enter Try.func94, Try.ntmps94
    go_wp2
    go_ret
    exact ⟨by first | rfl | (simp <;> omega), rfl⟩
  · have e2 : max x (-x) = x := by omega
    rw [e2]
    go_enter Try.func94, Try.ntmps94
    go_wp2
    go_ret
    exact ⟨by first | rfl | (simp <;> omega), rfl⟩
end Go.Proofs.Ytbibmncepjmgcaa
