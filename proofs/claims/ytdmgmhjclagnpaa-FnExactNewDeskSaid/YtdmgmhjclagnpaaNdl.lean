/- The law of NewDesk. -/
import Derived.Test.YtdmgmhjclagnpaaNdk
namespace Go.Proofs.Ytdmgmhjclagnpaa
open Go.RowKit
set_option linter.unusedVariables false
set_option linter.unusedSimpArgs false
theorem tri_own {w w1 w2 w' : World} {g b : Nat} {cs : Array Value} {t : TypeId} (h : Own w b cs t) (h1 : Below w.heap.size w w1) (h2 : Only g w1 w2) (h3 : Below w2.heap.size w2 w') (hne : b ≠ g) : Own w' b cs t := by
  have a := h.below h1 h.lt
  have c := a.only h2 hne
  exact c.below h3 c.lt
theorem MnT.onl {w w' : World} {B g b : Nat} {ts : List Tm} (h : MnT w B g ts) (hN : Only b w w') (hne : g ≠ b) : MnT w' B g ts := by
  obtain ⟨h0, sp, ho⟩ := h
  exact ⟨h0, sp, ho.only hN hne⟩
theorem tri_mn {w w1 w2 w' : World} {g b B : Nat} {ts : List Tm} (h : MnT w B b ts) (h1 : Below w.heap.size w w1) (h2 : Only g w1 w2) (h3 : Below w2.heap.size w2 w') (hne : b ≠ g) : MnT w' B b ts := by
  obtain ⟨h0, sp, ho⟩ := h
  exact ⟨h0, sp, tri_own ho h1 h2 h3 hne⟩
theorem tri_below {w w1 w2 w' : World} {g B : Nat} (h1 : Below w.heap.size w w1) (h2 : Only g w1 w2) (hs : w1.heap.size ≤ w2.heap.size) (h3 : Below w2.heap.size w2 w') (hB : B ≤ g) (hB2 : B ≤ w.heap.size) : Below B w w' :=
  (h1.mono hB2).trans ((h2.below.mono hB).trans (h3.mono (by have := h1.size; omega)))
set_option maxRecDepth 100000 in
set_option maxHeartbeats 4000000 in
theorem newdk_law (W : World) : Calls Try.prog 3 #[] W fun e w' => e = .returned (.bool true) ∧ Below W.heap.size W w' := by
  have hS := Lib.hid (fun w => newDkS_any w)
  have hI := Lib.hid (fun w => newDkI_any w)
  have ol := oneL_len 3 3
  obtain ⟨T, hT⟩ : ∃ T, [((3 : Int), oneL 3 3, (1 : Int))] = T := ⟨_, rfl⟩
  have h16 : L16 T := by rw [← hT]; intro t ht; obtain rfl : t = (3, oneL 3 3, 1) := (by simpa using ht); exact ol
  have hTl : T.length = 1 := by rw [← hT]; rfl
  rw [hT] at hS hI
  have heq := Lib.hid (fun (a b b' : Nat) (B cap2 : Nat) (w : World) (hA : MnT w B a T) (hB : MnT w B b T) => (show Calls Try.prog 11 #[.agg (dkl 7 3 3 (.slice (some ⟨a, 0, none⟩) 1 1) 7 3 3 (.slice none 0 0)), .agg (dkl 7 3 3 (.slice (some ⟨b, 0, none⟩) 1 cap2) 7 3 3 (.slice (some ⟨b', 0, none⟩) 0 0))] w fun e w' => e = .returned (.bool true) ∧ Below w.heap.size w w' from by
    have := eqDk_any 7 3 3 (some ⟨a, 0, none⟩) (some ⟨b, 0, none⟩) 1 cap2 T h16 (by omega) 7 3 3 none (some ⟨b', 0, none⟩) 0 0 [] (fun t ht => by cases ht) (by simp) w (hA.rd h16) (hB.rd h16) (RdT.no _ _) (RdT.no _ _)
    rw [hTl] at this
    exact this))
  have hmk := Lib.hid (fun (g B : Nat) (w : World) (hM : MnT w B g T) => show Calls Try.prog 12 #[.agg (dkl 7 3 3 (.slice (some ⟨g, 0, none⟩) 1 1) 7 3 3 (.slice none 0 0)), .int .i64 1] w fun e w' => e = .returned (.int .i64 19) ∧ ∃ S, Mkw w' g S 1 18 ∧ ∃ w1, Below w.heap.size w w1 ∧ ∃ w2, Only g w1 w2 ∧ w1.heap.size ≤ w2.heap.size ∧ Below w2.heap.size w2 w' from by
    obtain ⟨S, hS, hK⟩ := hM.mkw h16 1
    rw [hTl] at hS
    exact (markDk1 7 3 3 7 3 3 g 1 S (by omega) w hK).mono fun e w' h => ⟨h.1, S, h.2⟩)
  have hhd := Lib.hid (fun (g S : Nat) (w : World) (hM : Mkw w g S 1 18) => heldDk1 7 3 3 7 3 3 g 1 S w hM)
  clear hT h16 hTl ol
  go_enter Try.func3, Try.ntmps3
  go_wp2_with (first
    | (go_at_call 13; ((with_reducible refine (hhd.out _ _ w10 hK10).mono ?_); rintro e w11 ⟨rfl, hB11⟩; have b11 := b10.trans (hB11.mono b10.size)))
    | (refine wpList_load_row rfl 26 _ rfl _ rfl 26 _ (0, 0) _ hC10 Try.underlying26 rfl (by kernel_rfl) ?_)
    | (go_at_call 11; ((with_reducible refine (heq.out _ _ _ 0 _ w9 (hM9.weak (Nat.zero_le _)) (hS9.weak (Nat.zero_le _))).mono ?_); rintro e w10 ⟨rfl, hB10⟩; have hC10 := hC9.below hB10 hC9.lt; have hK10 := hK9.below hB10 hK9.lt; have b10 := b9.trans (hB10.mono b9.size)))
    | (refine wpList_load_row rfl 26 _ rfl _ rfl 26 _ (0, 0) _ hD9 Try.underlying26 rfl (by kernel_rfl) ?_)
    | (refine wpList_load_row rfl 26 _ rfl _ rfl 26 _ (0, 0) _ hA9 Try.underlying26 rfl (by kernel_rfl) ?_)
    | (refine wpList_store_own rfl 26 _ _ rfl _ _ rfl rfl 26 _ (Own.new w8 _ _) (by kernel_rfl) rfl (by simp [dkl, Value.oneCell']) ?_; intro w9 hD9 hNw9; have hA9 := (hA8.alloc (.cells (dkl 0 0 0 (.slice none 0 0) 0 0 0 (.slice none 0 0)) 26)).only hNw9 (Nat.ne_of_lt hA8.lt); have hC9 := (hC8.alloc (.cells (dkl 0 0 0 (.slice none 0 0) 0 0 0 (.slice none 0 0)) 26)).only hNw9 (Nat.ne_of_lt hC8.lt); have hS9 := (hS8.alloc (.cells (dkl 0 0 0 (.slice none 0 0) 0 0 0 (.slice none 0 0)) 26)).onl hNw9 (Nat.ne_of_lt hS8.lt); have hM9 := (hM8.alloc (.cells (dkl 0 0 0 (.slice none 0 0) 0 0 0 (.slice none 0 0)) 26)).onl hNw9 (Nat.ne_of_lt hM8.lt); have hK9 := (hK8.below (bel1 w8 (.cells (dkl 0 0 0 (.slice none 0 0) 0 0 0 (.slice none 0 0)) 26)) hK8.lt).only hNw9 (Nat.ne_of_lt hK8.lt); have b9 := (b8.alloc b8.size (.cells (dkl 0 0 0 (.slice none 0 0) 0 0 0 (.slice none 0 0)) 26)).trans (hNw9.below.mono b8.size))
    | (go_at_call 10; ((with_reducible refine (hI.out w7).mono ?_); rintro e w8 ⟨g8, rfl, hM8, hB8⟩; have hA8 := hA7.below hB8 hA7.lt; have hC8 := hC7.below hB8 hC7.lt; have hS8 := hS7.below hB8 hS7.lt; have hK8 := hK7.below hB8 hK7.lt; have b8 := b7.trans (hB8.mono b7.size)))
    | (go_at_call 13; ((with_reducible refine (hhd.out _ _ w6 hK6).mono ?_); rintro e w7 ⟨rfl, hB7⟩; have hA7 := hA6.below hB7 hA6.lt; have hC7 := hC6.below hB7 hC6.lt; have hS7 := hS6.below hB7 hS6.lt; have hK7 := hK6.below hB7 hK6.lt; have b7 := b6.trans (hB7.mono b6.size)))
    | (refine wpList_load_row rfl 26 _ rfl _ rfl 26 _ (0, 0) _ hC6 Try.underlying26 rfl (by kernel_rfl) ?_)
    | (go_at_call 12; ((with_reducible refine (hmk.out _ _ w5 hM5).mono ?_); rintro e w6 ⟨rfl, S, hK6, x1, hx1, x2, hx2, hxs, hx3⟩; have hgA := hA5.lt; have hgM := hM5.1; have hgC := hC5.lt; have hgS := hS5.lt; have hA6 := tri_own hA5 hx1 hx2 hx3 (by omega); have hC6 := tri_own hC5 hx1 hx2 hx3 (by omega); have hS6 := tri_mn hS5 hx1 hx2 hx3 (by omega); have b6 := b5.trans (tri_below (B := W.heap.size) hx1 hx2 hxs hx3 (by omega) b5.size)))
    | (refine wpList_load_row rfl 26 _ rfl _ rfl 26 _ (0, 0) _ hC5 Try.underlying26 rfl (by kernel_rfl) ?_)
    | (go_at_call 11; ((with_reducible refine (heq.out _ _ _ 0 _ w4 (hM4.weak (Nat.zero_le _)) (hS4.weak (Nat.zero_le _))).mono ?_); rintro e w5 ⟨rfl, hB5⟩; have hA5 := hA4.below hB5 hA4.lt; have hC5 := hC4.below hB5 hC4.lt; have hS5 := hS4.below hB5 hS4.lt; have hM5 := hM4.below hB5 hM4.lt; have b5 := b4.trans (hB5.mono b4.size)))
    | (refine wpList_load_row rfl 26 _ rfl _ rfl 26 _ (0, 0) _ hC4 Try.underlying26 rfl (by kernel_rfl) ?_)
    | (refine wpList_load_row rfl 26 _ rfl _ rfl 26 _ (0, 0) _ hA4 Try.underlying26 rfl (by kernel_rfl) ?_)
    | (refine wpList_store_own rfl 26 _ _ rfl _ _ rfl rfl 26 _ (Own.new w3 _ _) (by kernel_rfl) rfl (by simp [dkl, Value.oneCell']) ?_; intro w4 hC4 hNw4; have hA4 := (hA3.alloc (.cells (dkl 0 0 0 (.slice none 0 0) 0 0 0 (.slice none 0 0)) 26)).only hNw4 (Nat.ne_of_lt hA3.lt); have hS4 := (hS3.alloc (.cells (dkl 0 0 0 (.slice none 0 0) 0 0 0 (.slice none 0 0)) 26)).onl hNw4 (Nat.ne_of_lt hS3.lt); have hM4 := (hM3.alloc (.cells (dkl 0 0 0 (.slice none 0 0) 0 0 0 (.slice none 0 0)) 26)).onl hNw4 (Nat.ne_of_lt hM3.lt); have b4 := (b3.alloc b3.size (.cells (dkl 0 0 0 (.slice none 0 0) 0 0 0 (.slice none 0 0)) 26)).trans (hNw4.below.mono b3.size))
    | (go_at_call 10; ((with_reducible refine (hI.out w2).mono ?_); rintro e w3 ⟨g3, rfl, hM3, hB3⟩; have q2 := b2.size; have q3 := hM3.lt; have q4 := hM3.1; have q5 := hA2.lt; have q6 := hS2.lt; have q7 := hB3.size; have hA3 := hA2.below hB3 hA2.lt; have hS3 := hS2.below hB3 hS2.lt; have b3 := b2.trans (hB3.mono b2.size)))
    | (refine wpList_store_own rfl 26 _ _ rfl _ _ rfl rfl 26 _ (Own.new w1 _ _) (by kernel_rfl) rfl (by simp [dkl, Value.oneCell']) ?_; intro w2 hA2 hNw2; have hS2 := (hS1.alloc (.cells (dkl 0 0 0 (.slice none 0 0) 0 0 0 (.slice none 0 0)) 26)).onl hNw2 (Nat.ne_of_lt hS1.lt); have b2 := (b1.alloc b1.size (.cells (dkl 0 0 0 (.slice none 0 0) 0 0 0 (.slice none 0 0)) 26)).trans (hNw2.below.mono b1.size))
    | (go_at_call 9; ((with_reducible refine (hS.out W).mono ?_); rintro e w1 ⟨gS, capS, g2, rfl, hS1, hN1, b1⟩)))
  go_ret
  exact ⟨rfl, b11⟩
end Go.Proofs.Ytdmgmhjclagnpaa
