/- The law of ScaleElement. (Written by genelaw.py.) -/
import Derived.Test.YtpmcngmphkegnaaScb
import Derived.Test.YtpmcngmphkegnaaKi
namespace Go.Proofs.Ytpmcngmphkegnaa
open Go.RowKit Go.Lib
set_option linter.unusedVariables false
set_option linter.unusedSimpArgs false
theorem toE_ex (p c n : Int) (q : Option Addr) (cap : Nat) (ts : List Tm) (hts : ∀ t ∈ ts, t.2.1.length = 16) (hx : ts.length ≤ 1048576) (w : World) (hR : RdT w q ts) :
    Calls Try.prog 16 #[.agg (ecl p c n (.slice q ts.length cap))] w fun e w' => ∃ g, e = .returned (.agg (ecl p c n (.slice (some ⟨g, 0, none⟩) ts.length ts.length))) ∧ w.heap.size ≤ g ∧ Own w' g (tsl ts).toArray 71 ∧ Below w.heap.size w w' :=
  Calls.mono (toE_any p c n q cap ts hts hx w hR) (fun e w' ⟨he, ho, hb⟩ => ⟨_, he, by omega, ho, hb⟩)
theorem markE_own (p c n : Int) (g cap s : Nat) (ts : List Tm) (w : World) (hx : ts.length ≤ 1048576) (h16 : L16 ts) (hs : s ≤ 100000000) (h : Own w g (tsl ts).toArray 71) :
    Calls Try.prog 19 #[.agg (ecl p c n (.slice (some ⟨g, 0, none⟩) ts.length cap)), .int .i64 (s : Int)] w fun e w' => e = .returned (.int .i64 ((s : Int) + (ts.length : Int) * 18)) ∧ Frg (some ⟨g, 0, none⟩) w w' :=
  Calls.mono (markE_res p c n (some ⟨g, 0, none⟩) cap s ts 0 w hx h16 hs (.inr ⟨g, rfl, Nat.zero_le _, [], by simpa using h⟩)) (fun e w' ⟨he, _, hf⟩ => ⟨he, hf⟩)
set_option maxRecDepth 100000 in
set_option maxHeartbeats 16000000 in
theorem scl_walk (p c n : Int) (q : Option Addr) (cap : Nat) (ts : List Tm) (hts : ∀ t ∈ ts, t.2.1.length = 16 ∧ Bytes t.2.1) (hx : ts.length ≤ 1048576) (k : Int) (w : World) (hR : RdT w q ts) (p' c' n' code : Int) (L : List Tm) (h16L : L16 L) (hL : L.length ≤ 1048576)
    (hS0 : ∀ (a cap : Nat) (w : World), RdT w (some ⟨a, 0, none⟩) ts → Calls Try.prog 21 #[.agg (ecl p c n (.slice (some ⟨a, 0, none⟩) ts.length cap)), .int .i64 k] w fun e w' => (∃ q cap, e = .returned (.tuple #[.agg (ecl p' c' n' (.slice q L.length cap)), .int .i64 code]) ∧ Res w' w.heap.size q L) ∧ Below w.heap.size w w')
    (hI0 : ∀ (a cap : Nat) (w : World), RdT w (some ⟨a, 0, none⟩) ts → Calls Try.prog 22 #[.agg (ecl p c n (.slice (some ⟨a, 0, none⟩) ts.length cap)), .int .i64 k] w fun e w' => (∃ q cap, e = .returned (.tuple #[.agg (ecl p' c' n' (.slice q L.length cap)), .int .i64 code]) ∧ Res w' w.heap.size q L) ∧ Below w.heap.size w w') :
    Calls Try.prog 4 #[.agg (ecl p c n (.slice q ts.length cap)), .int .i64 k] w fun e w' => e = .returned (.bool true) ∧ Below w.heap.size w w' := by
  have h16 : ∀ t ∈ ts, t.2.1.length = 16 := fun t h => (hts t h).1
  have hsz := Lib.hid (fun w => szE_any p c n q ts.length cap 1048576 w (by unfold maxLen; omega) (by omega) (by omega))
  rw [if_neg (by omega)] at hsz
  have hto := Lib.hid (fun w hR => toE_ex p c n q cap ts h16 hx w hR)
  have hS := Lib.hid hS0
  have hI := Lib.hid hI0
  have hrx := Lib.hid (fun w g (h : Own w g (tsl ts).toArray 71) => h.rdT h16)
  have heqx := Lib.hid (fun a b w hA hB => eqE_any p c n (some ⟨a, 0, none⟩) (some ⟨b, 0, none⟩) ts.length ts.length ts h16 hx w hA hB)
  have hmkx := Lib.hid (fun g w h => markE_own p c n g ts.length 1 ts w hx h16 (by omega) h)
  have heq := Lib.hid (fun a b cap cap' w hA hB => eqE_any p' c' n' a b cap cap' L h16L hL w hA hB)
  have hmk := Lib.hid (fun q cap B w h => markE_res p' c' n' q cap 1 L B w hL h16L (by omega) h)
  have hhd := Lib.hid (fun q cap w h => heldE_res p' c' n' q cap 1 L w hL (by omega) h)
  have hrd := Lib.hid (fun w B q (h : Res w B q L) => h.rd h16L)
  have hR' := Lib.hid (fun w' (hb : Below w.heap.size w w') => hR.below hb)
  obtain ⟨l, hl⟩ : ∃ l, ts.length = l := ⟨_, rfl⟩
  rw [hl] at hx hsz hto hS hI heqx hmkx ⊢
  obtain ⟨l', hl'⟩ : ∃ l, L.length = l := ⟨_, rfl⟩
  rw [hl'] at hS hI heq hmk hhd hL
  have hlz : ¬ (1048576 - (l : Int) < 0) := by omega
  obtain ⟨z, hz⟩ : ∃ z : Int, 1048576 - (l : Int) = z := ⟨_, rfl⟩
  rw [hz] at hsz hlz
  obtain ⟨y, hy⟩ : ∃ y : Nat, ((1 : Nat) : Int) + (l : Int) * 18 = (y : Int) := ⟨1 + l * 18, by omega⟩
  rw [hy] at hmkx
  have hy0 : ¬ (y : Int) < 0 := by omega
  obtain ⟨z', hz'⟩ : ∃ z : Int, ((1 : Nat) : Int) + (l' : Int) * 18 = z := ⟨_, rfl⟩
  rw [hz'] at hmk hhd
  have hz0 : ¬ z' < 0 := by omega
  simp only [Int.natCast_one] at hmkx hmk hhd
  clear hl hl' hR h16 h16L hts hS0 hI0 hz hy hz' hx hL
  unfold ecl at *
  go_enter Try.func4, Try.ntmps4
  go_wp2_with (first
    | (go_at_call 18; ((with_reducible refine (heq.out qI qS capI capS (w5.alloc (.cells #[.int .i64 p', .int .i64 c', .int .i64 n', .slice qI l' capI] 28)) (hrd.out _ _ _ (r_I.al (.cells #[.int .i64 p', .int .i64 c', .int .i64 n', .slice qI l' capI] 28))) (hrd.out _ _ _ (r_S.al (.cells #[.int .i64 p', .int .i64 c', .int .i64 n', .slice qI l' capI] 28)))).mono ?_); rintro e w6 ⟨rfl, hB⟩; replace o_X := (o_X.alloc (.cells #[.int .i64 p', .int .i64 c', .int .i64 n', .slice qI l' capI] 28)).below hB (by have := o_X.lt; simp; omega); replace o_M := (o_M.alloc (.cells #[.int .i64 p', .int .i64 c', .int .i64 n', .slice qI l' capI] 28)).below hB (by have := o_M.lt; simp; omega); replace o_T := (o_T.alloc (.cells #[.int .i64 p', .int .i64 c', .int .i64 n', .slice qI l' capI] 28)).below hB (by have := o_T.lt; simp; omega); replace o_Z := (o_Z.alloc (.cells #[.int .i64 p', .int .i64 c', .int .i64 n', .slice qI l' capI] 28)).below hB (by have := o_Z.lt; simp; omega); have o_G := (Own.new w5 #[.int .i64 p', .int .i64 c', .int .i64 n', .slice qI l' capI] 28).below hB (by simp); replace r_S := (r_S.al (.cells #[.int .i64 p', .int .i64 c', .int .i64 n', .slice qI l' capI] 28)).below hB (Nat.le_refl _); replace r_I := (r_I.al (.cells #[.int .i64 p', .int .i64 c', .int .i64 n', .slice qI l' capI] 28)).below hB (Nat.le_refl _); replace b := (b.alloc b.size (.cells #[.int .i64 p', .int .i64 c', .int .i64 n', .slice qI l' capI] 28)).trans (hB.mono (by have := b.size; simp; omega)); clear hB))
    | (refine wpList_load_row rfl 28 _ rfl _ rfl 28 _ (0, 0) _ (o_M.alloc (.cells #[.int .i64 p', .int .i64 c', .int .i64 n', .slice qI l' capI] 28)) Try.underlying28 rfl (by kernel_rfl) ?_)
    | (refine wpList_load_row rfl 28 _ rfl _ rfl 28 _ (0, 0) _ (Own.new w5 #[.int .i64 p', .int .i64 c', .int .i64 n', .slice qI l' capI] 28) Try.underlying28 rfl (by kernel_rfl) ?_)
    | (go_at_call 22; ((with_reducible refine (hI.out g4 l (w4.alloc (.cells #[.int .i64 p, .int .i64 c, .int .i64 n, .slice (some ⟨g4, 0, none⟩) l l] 28)) (hrx.out _ _ (o_T.alloc _))).mono ?_); rintro e w5 ⟨⟨qI, capI, rfl, r_I⟩, hB⟩; replace o_X := (o_X.alloc (.cells #[.int .i64 p, .int .i64 c, .int .i64 n, .slice (some ⟨g4, 0, none⟩) l l] 28)).below hB (by have := o_X.lt; simp; omega); replace o_M := (o_M.alloc (.cells #[.int .i64 p, .int .i64 c, .int .i64 n, .slice (some ⟨g4, 0, none⟩) l l] 28)).below hB (by have := o_M.lt; simp; omega); replace o_T := (o_T.alloc (.cells #[.int .i64 p, .int .i64 c, .int .i64 n, .slice (some ⟨g4, 0, none⟩) l l] 28)).below hB (by have := o_T.lt; simp; omega); have o_Z := (Own.new w4 #[.int .i64 p, .int .i64 c, .int .i64 n, .slice (some ⟨g4, 0, none⟩) l l] 28).below hB (by simp); replace r_S := (r_S.al (.cells #[.int .i64 p, .int .i64 c, .int .i64 n, .slice (some ⟨g4, 0, none⟩) l l] 28)).below hB (Nat.le_refl _); replace b := (b.alloc b.size (.cells #[.int .i64 p, .int .i64 c, .int .i64 n, .slice (some ⟨g4, 0, none⟩) l l] 28)).trans (hB.mono (by have := b.size; simp; omega)); have k_I := Lib.hid (fun (a : Addr) (e : qI = some a) => show w4.heap.size + 1 ≤ a.block ∧ a.block < w5.heap.size from by have := r_I.blk a e; simpa using this); have s4 := o_Z.lt; clear hB))
    | (refine wpList_load_row rfl 28 _ rfl _ rfl 28 _ (0, 0) _ (Own.new w4 #[.int .i64 p, .int .i64 c, .int .i64 n, .slice (some ⟨g4, 0, none⟩) l l] 28) Try.underlying28 rfl (by kernel_rfl) ?_)
    | (go_at_call 16; ((with_reducible refine (hto.out (w3.alloc (.cells #[.int .i64 p', .int .i64 c', .int .i64 n', .slice qS l' capS] 28)) (hR'.out _ (b.alloc b.size _))).mono ?_); rintro e w4 ⟨g4, rfl, hg4, o_T, hB⟩; replace o_X := (o_X.alloc (.cells #[.int .i64 p', .int .i64 c', .int .i64 n', .slice qS l' capS] 28)).below hB (by have := o_X.lt; simp; omega); have o_M := (Own.new w3 #[.int .i64 p', .int .i64 c', .int .i64 n', .slice qS l' capS] 28).below hB (by simp); replace r_S := (r_S.al (.cells #[.int .i64 p', .int .i64 c', .int .i64 n', .slice qS l' capS] 28)).below hB (Nat.le_refl _); replace b := (b.alloc b.size (.cells #[.int .i64 p', .int .i64 c', .int .i64 n', .slice qS l' capS] 28)).trans (hB.mono (by have := b.size; simp; omega)); have hg4b : w3.heap.size + 1 ≤ g4 := (by simpa using hg4); have s2 := o_T.lt; have s3 := o_M.lt; clear hB))
    | (refine wpList_load_row rfl 24 _ rfl _ rfl 24 _ (0, 0) _ (o_X.alloc (.cells #[.int .i64 p', .int .i64 c', .int .i64 n', .slice qS l' capS] 28)) Try.underlying24 rfl (by kernel_rfl) ?_)
    | (go_at_call 21; ((with_reducible refine (hS.out g2 l w2 (hrx.out _ _ o_T)).mono ?_); rintro e w3 ⟨⟨qS, capS, rfl, r_S⟩, hB⟩; replace o_X := o_X.below hB o_X.lt; replace b := b.trans (hB.mono b.size); have k_S := Lib.hid r_S.blk; have s0 := b.size; have s1 := o_X.lt; clear hB))
    | (go_at_call 16; ((with_reducible refine (hto.out w1 (hR'.out _ b)).mono ?_); rintro e w2 ⟨g2, rfl, hg2, o_T, hB⟩; replace o_X := o_X.below hB o_X.lt; replace b := b.trans (hB.mono b.size); clear hB))
    | (refine wpList_load_row rfl 24 _ rfl _ rfl 24 _ (0, 0) _ (o_X) Try.underlying24 rfl (by kernel_rfl) ?_)
    | (go_at_call 14; ((with_reducible refine (hsz.out (w.alloc (.cells #[.int .i64 p, .int .i64 c, .int .i64 n, .slice q l cap] 24))).mono ?_); rintro e w1 ⟨rfl, hB⟩; have o_X := (Own.new w #[.int .i64 p, .int .i64 c, .int .i64 n, .slice q l cap] 24).below hB (by simp); have b : Below w.heap.size w w1 := ((Below.refl w.heap.size w).alloc (Nat.le_refl _) (.cells #[.int .i64 p, .int .i64 c, .int .i64 n, .slice q l cap] 24)).trans (hB.mono (by simp)); clear hB))
    | (refine wpList_load_row rfl 24 _ rfl _ rfl 24 _ (0, 0) _ (Own.new w #[.int .i64 p, .int .i64 c, .int .i64 n, .slice q l cap] 24) Try.underlying24 rfl (by kernel_rfl) ?_))
  have hZc := Lib.hid (fun wd (hd : Below w6.heap.size w6 wd) => own4 (o_Z.below hd o_Z.lt))
  have hXc := Lib.hid (fun wd (hd : Below w6.heap.size w6 wd) => own4 (o_X.below hd o_X.lt))
  refine wp_region_on (fun w' => Below w6.heap.size w6 w') [0, 1] [2] 3 (by kernel_rfl) (by kernel_rfl) (Below.drewN (Below.refl _ _) 1) ?_
  simp only [List.map_cons, List.map_nil, opN_zero, opN_succ, List.drop_succ_cons, List.drop_zero]
  (apply wpOn_step; · (intro wd hS' K hK; obtain ⟨k0, k1, k2, k3⟩ := hZc.out wd hS'; clear hS'; go_simp; exact hK))
  (apply wpOn_step; · (intro wd hS' K hK; obtain ⟨k0, k1, k2, k3⟩ := hXc.out wd hS'; clear hS'; go_simp; exact hK))
  refine wpOn_nil ?_
  intro x8 hB8
  replace o_X := o_X.below hB8 o_X.lt
  replace o_M := o_M.below hB8 o_M.lt
  replace o_T := o_T.below hB8 o_T.lt
  replace o_Z := o_Z.below hB8 o_Z.lt
  replace o_G := o_G.below hB8 o_G.lt
  replace r_S := r_S.below hB8 (Nat.le_refl _)
  replace r_I := r_I.below hB8 (Nat.le_refl _)
  replace b := b.trans (hB8.mono b.size)
  refine wpMid_step (fun K hK => ?_)
  go_wp2_with (first
    | (go_at_call 16; ((with_reducible refine (hto.out x8 (hR'.out _ b)).mono ?_); rintro e w7 ⟨g9, rfl, hg9, o_N, hB⟩; replace o_X := o_X.below hB o_X.lt; replace o_M := o_M.below hB o_M.lt; replace o_T := o_T.below hB o_T.lt; replace o_Z := o_Z.below hB o_Z.lt; replace o_G := o_G.below hB o_G.lt; replace r_S := r_S.below hB (Nat.le_refl _); replace r_I := r_I.below hB (Nat.le_refl _); replace b := b.trans (hB.mono b.size); have hBq := hB8.trans (hB.mono hB8.size); clear hB)))
  refine hK _ _ hBq ?_
  clear hK K hBq hB8 hZc hXc
  refine wpMid_nil ?_
  go_wp2_with (first
    | (go_at_call 20; ((with_reducible refine (hhd.out qI capI w15 m_I).mono ?_); rintro e w16 ⟨rfl, hB⟩; replace o_X := o_X.below hB o_X.lt; replace o_M := o_M.below hB o_M.lt; replace o_Z := o_Z.below hB o_Z.lt; replace o_G := o_G.below hB o_G.lt; replace o_H := o_H.below hB o_H.lt; replace r_S := r_S.below hB (Nat.le_refl _); replace r_J := r_J.below hB (Nat.le_refl _); replace m_I := m_I.below hB (Nat.le_refl _); replace b := b.trans (hB.mono b.size); clear hB))
    | (refine wpList_load_row rfl 28 _ rfl _ rfl 28 _ (0, 0) _ (o_G) Try.underlying28 rfl (by kernel_rfl) ?_)
    | (go_at_call 18; ((with_reducible refine (heq.out qJ qS capJ capS (w14.alloc (.cells #[.int .i64 p', .int .i64 c', .int .i64 n', .slice qJ l' capJ] 28)) (hrd.out _ _ _ (r_J.al (.cells #[.int .i64 p', .int .i64 c', .int .i64 n', .slice qJ l' capJ] 28))) (hrd.out _ _ _ (r_S.al (.cells #[.int .i64 p', .int .i64 c', .int .i64 n', .slice qJ l' capJ] 28)))).mono ?_); rintro e w15 ⟨rfl, hB⟩; replace o_X := (o_X.alloc (.cells #[.int .i64 p', .int .i64 c', .int .i64 n', .slice qJ l' capJ] 28)).below hB (by have := o_X.lt; simp; omega); replace o_M := (o_M.alloc (.cells #[.int .i64 p', .int .i64 c', .int .i64 n', .slice qJ l' capJ] 28)).below hB (by have := o_M.lt; simp; omega); replace o_Z := (o_Z.alloc (.cells #[.int .i64 p', .int .i64 c', .int .i64 n', .slice qJ l' capJ] 28)).below hB (by have := o_Z.lt; simp; omega); replace o_G := (o_G.alloc (.cells #[.int .i64 p', .int .i64 c', .int .i64 n', .slice qJ l' capJ] 28)).below hB (by have := o_G.lt; simp; omega); have o_H := (Own.new w14 #[.int .i64 p', .int .i64 c', .int .i64 n', .slice qJ l' capJ] 28).below hB (by simp); replace r_S := (r_S.al (.cells #[.int .i64 p', .int .i64 c', .int .i64 n', .slice qJ l' capJ] 28)).below hB (Nat.le_refl _); replace r_J := (r_J.al (.cells #[.int .i64 p', .int .i64 c', .int .i64 n', .slice qJ l' capJ] 28)).below hB (Nat.le_refl _); replace m_I := (m_I.al (.cells #[.int .i64 p', .int .i64 c', .int .i64 n', .slice qJ l' capJ] 28)).below hB (Nat.le_refl _); replace b := (b.alloc b.size (.cells #[.int .i64 p', .int .i64 c', .int .i64 n', .slice qJ l' capJ] 28)).trans (hB.mono (by have := b.size; simp; omega)); clear hB))
    | (refine wpList_load_row rfl 28 _ rfl _ rfl 28 _ (0, 0) _ (o_M.alloc (.cells #[.int .i64 p', .int .i64 c', .int .i64 n', .slice qJ l' capJ] 28)) Try.underlying28 rfl (by kernel_rfl) ?_)
    | (refine wpList_load_row rfl 28 _ rfl _ rfl 28 _ (0, 0) _ (Own.new w14 #[.int .i64 p', .int .i64 c', .int .i64 n', .slice qJ l' capJ] 28) Try.underlying28 rfl (by kernel_rfl) ?_)
    | (go_at_call 22; ((with_reducible refine (hI.out g12 l w13 (hrx.out _ _ o_T)).mono ?_); rintro e w14 ⟨⟨qJ, capJ, rfl, r_J⟩, hB⟩; replace o_X := o_X.below hB o_X.lt; replace o_M := o_M.below hB o_M.lt; replace o_Z := o_Z.below hB o_Z.lt; replace o_G := o_G.below hB o_G.lt; replace r_S := r_S.below hB (Nat.le_refl _); replace m_I := m_I.below hB (Nat.le_refl _); replace b := b.trans (hB.mono b.size); clear hB))
    | (go_at_call 16; ((with_reducible refine (hto.out w12 (hR'.out _ b)).mono ?_); rintro e w13 ⟨g12, rfl, hg12, o_T, hB⟩; replace o_X := o_X.below hB o_X.lt; replace o_M := o_M.below hB o_M.lt; replace o_Z := o_Z.below hB o_Z.lt; replace o_G := o_G.below hB o_G.lt; replace r_S := r_S.below hB (Nat.le_refl _); replace m_I := m_I.below hB (Nat.le_refl _); replace b := b.trans (hB.mono b.size); clear hB))
    | (refine wpList_load_row rfl 24 _ rfl _ rfl 24 _ (0, 0) _ (o_X) Try.underlying24 rfl (by kernel_rfl) ?_)
    | (go_at_call 20; ((with_reducible refine (hhd.out qI capI w11 m_I).mono ?_); rintro e w12 ⟨rfl, hB⟩; replace o_X := o_X.below hB o_X.lt; replace o_M := o_M.below hB o_M.lt; replace o_Z := o_Z.below hB o_Z.lt; replace o_G := o_G.below hB o_G.lt; replace r_S := r_S.below hB (Nat.le_refl _); replace m_I := m_I.below hB (Nat.le_refl _); replace b := b.trans (hB.mono b.size); clear hB))
    | (refine wpList_load_row rfl 28 _ rfl _ rfl 28 _ (0, 0) _ (o_G) Try.underlying28 rfl (by kernel_rfl) ?_)
    | (go_at_call 19; ((with_reducible refine (hmk.out qI capI _ w10 r_I).mono ?_); rintro e w11 ⟨rfl, m_I, F⟩; replace o_X := F.own o_X (fun a e => by have := k_I.out a e; omega); replace o_M := F.own o_M (fun a e => by have := k_I.out a e; omega); replace o_Z := F.own o_Z (fun a e => by have := k_I.out a e; omega); replace o_G := F.own o_G (fun a e => by have := k_I.out a e; omega); replace r_S := F.res r_S (fun a a' e e' => by have := k_I.out a e; have := k_S.out a' e'; omega); replace b := b.trans (F.below w.heap.size b.size (fun a e => by have := k_I.out a e; omega)); clear F))
    | (refine wpList_load_row rfl 28 _ rfl _ rfl 28 _ (0, 0) _ (o_G) Try.underlying28 rfl (by kernel_rfl) ?_)
    | (go_at_call 18; ((with_reducible refine (heq.out qI qS capI capS w9 (hrd.out _ _ _ r_I) (hrd.out _ _ _ r_S)).mono ?_); rintro e w10 ⟨rfl, hB⟩; replace o_X := o_X.below hB o_X.lt; replace o_M := o_M.below hB o_M.lt; replace o_Z := o_Z.below hB o_Z.lt; replace o_G := o_G.below hB o_G.lt; replace r_S := r_S.below hB (Nat.le_refl _); replace r_I := r_I.below hB (Nat.le_refl _); replace b := b.trans (hB.mono b.size); clear hB))
    | (refine wpList_load_row rfl 28 _ rfl _ rfl 28 _ (0, 0) _ (o_M) Try.underlying28 rfl (by kernel_rfl) ?_)
    | (refine wpList_load_row rfl 28 _ rfl _ rfl 28 _ (0, 0) _ (o_G) Try.underlying28 rfl (by kernel_rfl) ?_)
    | (refine wpList_load_row_if rfl 28 _ rfl _ rfl 28 _ _ (o_M) Try.underlying28 rfl (by kernel_rfl) ?_)
    | (refine wpList_load_row_if rfl 28 _ rfl _ rfl 28 _ _ (o_G) Try.underlying28 rfl (by kernel_rfl) ?_)
    | (go_at_call 19; ((with_reducible refine (hmkx.out g4 w8 o_T).mono ?_); rintro e w9 ⟨rfl, F⟩; replace o_X := F.own o_X (fun a e => by have eb : g4 = a.block := congrArg Addr.block (Option.some.inj e); omega); replace o_M := F.own o_M (fun a e => by have eb : g4 = a.block := congrArg Addr.block (Option.some.inj e); omega); replace o_Z := F.own o_Z (fun a e => by have eb : g4 = a.block := congrArg Addr.block (Option.some.inj e); omega); replace o_G := F.own o_G (fun a e => by have eb : g4 = a.block := congrArg Addr.block (Option.some.inj e); omega); replace r_S := F.res r_S (fun a a' e e' => by have eb : g4 = a.block := congrArg Addr.block (Option.some.inj e); have := k_S.out a' e'; omega); replace r_I := F.res r_I (fun a a' e e' => by have eb : g4 = a.block := congrArg Addr.block (Option.some.inj e); have := k_I.out a' e'; omega); replace b := b.trans (F.below w.heap.size b.size (fun a e => by have eb : g4 = a.block := congrArg Addr.block (Option.some.inj e); omega)); clear F))
    | (refine wpList_load_row rfl 28 _ rfl _ rfl 28 _ (0, 0) _ (o_Z) Try.underlying28 rfl (by kernel_rfl) ?_)
    | (go_at_call 18; ((with_reducible refine (heqx.out g4 g9 w7 (hrx.out _ _ o_T) (hrx.out _ _ o_N)).mono ?_); rintro e w8 ⟨rfl, hB⟩; replace o_X := o_X.below hB o_X.lt; replace o_M := o_M.below hB o_M.lt; replace o_T := o_T.below hB o_T.lt; replace o_Z := o_Z.below hB o_Z.lt; replace o_G := o_G.below hB o_G.lt; replace o_N := o_N.below hB o_N.lt; replace r_S := r_S.below hB (Nat.le_refl _); replace r_I := r_I.below hB (Nat.le_refl _); replace b := b.trans (hB.mono b.size); clear hB)))
  go_ret
  exact ⟨rfl, b⟩
theorem scl_law (p c n k : Int) (q : Option Addr) (cap : Nat) (ts : List Tm) (hts : ∀ t ∈ ts, t.2.1.length = 16 ∧ Bytes t.2.1) (hx : ts.length ≤ 1048576) (hpw : -9223372036854775808 ≤ p ∧ p ≤ 9223372036854775807) (w : World) (hR : RdT w q ts) :
    Calls Try.prog 4 #[.agg (ecl p c n (.slice q ts.length cap)), .int .i64 k] w fun e w' => e = .returned (.bool true) ∧ Below w.heap.size w w' := by
  have h0 : L16 [] := fun t ht => by cases ht
  cases he : elB p c n ts with
  | false => exact scl_walk p c n q cap ts hts hx k w hR 0 0 0 1 [] h0 (by simp) (fun a cap w hR => res0 (sclS_b1 p c n k a cap ts hts hx hpw he w hR)) (fun a cap w hR => res0 (sclI_b1 p c n k a cap ts hts hx he w hR))
  | true =>
    by_cases hk : -1000000 ≤ k ∧ k ≤ 1000000
    · obtain ⟨hp, hc, hn, hl, hG0, hsz, hp2, hp97, hto⟩ := elB_good he hts
      have hG : GoodT p (smN p k ts []) := smN_good (by omega) ts [] (fun t ht => (hto t ht).1) (Good.nil p)
      have hln := smN_len p k ts []
      simp only [List.length_nil, Nat.zero_add] at hln
      exact scl_walk p c n q cap ts hts hx k w hR p c n 0 _ (good16 hG) (by omega) (fun a cap w hR => sclS_ok p c n k a cap ts hts hx he hk w hR) (fun a cap w hR => sclI_ok p c n k a cap ts hts hx he hk w hR)
    · exact scl_walk p c n q cap ts hts hx k w hR 0 0 0 2 [] h0 (by simp) (fun a cap w hR => res0 (sclS_b2 p c n k a cap ts hts hx hpw he hk w hR)) (fun a cap w hR => res0 (sclI_b2 p c n k a cap ts hts hx he hk w hR))
theorem scl_big (p c n : Int) (q : Option Addr) (len cap : Nat) (k : Int) (w : World) (hm : len ≤ maxLen) (h : 1048576 < len) : Calls Try.prog 4 #[.agg (ecl p c n (.slice q len cap)), .int .i64 k] w fun e w' => e = .returned (.bool true) ∧ Below w.heap.size w w' := by
  have hsz := Lib.hid (fun w => szE_any p c n q len cap 1048576 w hm (by omega) (by omega))
  rw [if_pos (by omega)] at hsz
  clear h hm
  go_enter Try.func4, Try.ntmps4
  unfold ecl at *
  go_wp2_with (first
      | (go_at_call 14; ((with_reducible refine (hsz.out _).mono ?_); rintro e w1 ⟨rfl, hB1⟩; have b1 := ((Below.refl w.heap.size w).alloc (Nat.le_refl _) _).trans (hB1.mono (by simp))))
      | (refine wpList_load_row rfl 24 _ rfl _ rfl 24 _ (0, 0) _ (Own.new w _ _) Try.underlying24 rfl (by kernel_rfl) ?_))
  go_ret
  exact ⟨rfl, b1⟩
theorem scl_all (p c n k : Int) (q : Option Addr) (cap : Nat) (ts : List Tm) (hok : ∀ t ∈ ts, OkTm t) (hm : ts.length ≤ maxLen) (hpw : -9223372036854775808 ≤ p ∧ p ≤ 9223372036854775807) (w : World) (hR : RdT w q ts) :
    Calls Try.prog 4 #[.agg (ecl p c n (.slice q ts.length cap)), .int .i64 k] w fun e w' => e = .returned (.bool true) ∧ Below w.heap.size w w' := by
  have hts : ∀ t ∈ ts, t.2.1.length = 16 ∧ Bytes t.2.1 := fun t ht => hok t ht
  by_cases h : ts.length ≤ 1048576
  · exact scl_law p c n k q cap ts hts h hpw w hR
  · exact scl_big p c n q ts.length cap k w hm (by omega)
end Go.Proofs.Ytpmcngmphkegnaa
