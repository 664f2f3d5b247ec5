/- Contracts of the program's DiagramOfPermutation. -/
import Derived.Test.YtbikpagoeeelbaaSortX
import Derived.Test.YtbikpagoeeelbaaLawShort
import Derived.Test.YtbikpagoeeelbaaWordS
namespace Go.Proofs.Ytbikpagoeeelbaa
open Go.RowKit
set_option linter.unusedVariables false
theorem met_self (mb : List Bool) (i : Nat) : (mb.set i true).getD i true = true := by
  rw [List.getD_eq_getElem?_getD, List.getElem?_set]
  by_cases h : i < mb.length <;> simp [h]
theorem met_other (mb : List Bool) (i j : Nat) (h : (mb.set i true).getD j true = false) : i ≠ j ∧ mb.getD j true = false := by
  by_cases e : i = j
  · subst e; rw [met_self] at h; cases h
  · refine ⟨e, ?_⟩
    rw [List.getD_eq_getElem?_getD, List.getElem?_set_ne e] at h
    rw [List.getD_eq_getElem?_getD]; exact h
theorem prm_all (n : Int) : ∀ (r : List Int) (mb : List Bool), prm n r mb = true → r.Nodup ∧ ∀ x ∈ r, 0 ≤ x ∧ x < n ∧ mb.getD x.toNat true = false := by
  intro r
  induction r with
  | nil => intro mb _; simp
  | cons x r ih =>
    intro mb h
    unfold prm at h
    split at h
    next hc =>
      obtain ⟨h1, h2⟩ := ih _ h
      refine ⟨List.nodup_cons.2 ⟨fun hx => (met_other _ _ _ (h2 x hx).2.2).1 rfl, h1⟩, ?_⟩
      intro y hy
      rcases List.mem_cons.1 hy with rfl | hy
      · exact hc
      · obtain ⟨a, b, c⟩ := h2 y hy
        exact ⟨a, b, (met_other _ _ _ c).2⟩
    next => cases h
theorem permB_prm {xs : List Int} (h : permB xs = true) : Prm xs ∧ 1 ≤ xs.length := by
  unfold permB at h
  rw [Bool.and_eq_true] at h
  have h1 : 1 ≤ xs.length ∧ xs.length ≤ 8 := by simpa using h.1
  obtain ⟨a, b⟩ := prm_all _ _ _ h.2
  exact ⟨⟨h1.2, a, fun x hx => by have := b x hx; omega⟩, h1.1⟩
theorem word_of {xs : List Int} (h : Prm xs) : ∃ W : List Nat, Run xs 0 W ∧ W.length ≤ 448 ∧ ∀ x ∈ wordOf W, 0 ≤ x ∧ x ≤ (xs.length : Int) - 2 := by
  have hb := phi_bd h
  have h8 := h.1
  obtain ⟨W, h1, h2, h3⟩ := run_ex 10000 xs 0 h (Nat.zero_le _) (by omega)
  refine ⟨W, h1, by omega, fun x hx => ?_⟩
  obtain ⟨k, hk, rfl⟩ := List.mem_map.1 hx
  have := h3 k (List.mem_reverse.1 hk)
  refine ⟨by simp, ?_⟩
  show (k : Int) ≤ _
  omega
set_option maxRecDepth 100000 in
theorem dopI_bad (p : Option Addr) (cap : Nat) (xs : List Int) (hx : xs.length ≤ 1048576) (w : World) (hR : Rd w p xs) (h : permB xs = false) :
    Calls Try.prog 31 #[.slice p xs.length cap] w fun e w' => e = .returned (.tuple #[.agg zcells, .int .i64 2]) ∧ Below w.heap.size w w' := by
  have hR' := Lib.hid hR
  have hc := Lib.hid (fun w hR => permI_any p cap xs hx w hR)
  rw [h] at hc
  clear hR h
  go_enter Try.func31, Try.ntmps31
  go_wp2_with (first
    | ((go_at_call 58; ((with_reducible refine (hc.out _ (hR'.out.below ((Below.refl _ _).alloc (Nat.le_refl _) _))).mono ?_); rintro e w1 ⟨rfl, hB1⟩)); have hO1 : Own w1 w.heap.size zcells 43 := (Own.new _ _ _).below hB1 (by simp); have b1 : Below w.heap.size w w1 := ((Below.refl _ _).alloc (Nat.le_refl _) _).trans (hB1.mono (by simp)))
    | (refine wpList_build_of rfl 43 #[] rfl zcells ?_ ?_; (exact built26nil))
    | (refine wpList_store_own rfl 43 _ _ rfl _ _ rfl rfl 43 _ (hO1) (row26 (d17 _ _ (zlen))) (rfl) (dcells_one _ _) ?_; intro w4 hO4 hN4))
  refine bodyPost_ret (v := .tuple #[.agg (zcells), .int .i64 2]) (results_row_tmp rfl _ _ _ _ _ (0, 0) _ rfl (hO4) Try.underlying43 rfl (row26 (d17 _ _ (zlen))) _ rfl) rfl (⟨rfl, b1.trans (hN4.below.mono (Nat.le_refl _))⟩)
set_option maxRecDepth 100000 in
theorem dopI_long (p : Option Addr) (cap : Nat) (xs : List Int) (hcap : xs.length ≤ cap) (w : World) (hR : Rd w p xs) (h : permB xs = true) (hs : ¬ ShortP xs) :
    Calls Try.prog 31 #[.slice p xs.length cap] w fun e w' => e = .returned (.tuple #[.agg zcells, .int .i64 5]) ∧ Below w.heap.size w w' := by
  have hR' := Lib.hid hR
  have h8 := permB_len h
  have hc := Lib.hid (fun w hR => permI_any p cap xs (by omega) w hR)
  rw [h] at hc
  have hq := Lib.hid (fun w1 hR1 => (shortI_any p cap xs h8 hcap w1 hR1).mono fun e w' h => (show e = .returned (.bool false) ∧ Below w1.heap.size w1 w' from by
    obtain ⟨⟨b', h1, h2⟩, h3⟩ := h
    have : b' = false := by cases b' <;> simp_all
    exact ⟨by rw [h1, this], h3⟩))
  clear hR h
  go_enter Try.func31, Try.ntmps31
  go_wp2_with (first
    | ((go_at_call 58; ((with_reducible refine (hc.out _ (hR'.out.below ((Below.refl _ _).alloc (Nat.le_refl _) _))).mono ?_); rintro e w1 ⟨rfl, hB1⟩)); have hO1 : Own w1 w.heap.size zcells 43 := (Own.new _ _ _).below hB1 (by simp); have b1 : Below w.heap.size w w1 := ((Below.refl _ _).alloc (Nat.le_refl _) _).trans (hB1.mono (by simp)))
    | ((go_at_call 59; ((with_reducible refine (hq.out _ (hR'.out.below b1)).mono ?_); rintro e w2 ⟨rfl, hB2⟩)); have hO2 := hO1.below hB2 hO1.lt; have b2 := b1.trans (hB2.mono b1.size))
    | (refine wpList_build_of rfl 43 #[] rfl zcells ?_ ?_; (exact built26nil))
    | (refine wpList_store_own rfl 43 _ _ rfl _ _ rfl rfl 43 _ (hO2) (row26 (d17 _ _ (zlen))) (rfl) (dcells_one _ _) ?_; intro w4 hO4 hN4))
  refine bodyPost_ret (v := .tuple #[.agg (zcells), .int .i64 5]) (results_row_tmp rfl _ _ _ _ _ (0, 0) _ rfl (hO4) Try.underlying43 rfl (row26 (d17 _ _ (zlen))) _ rfl) rfl (⟨rfl, b2.trans (hN4.below.mono (Nat.le_refl _))⟩)
set_option maxRecDepth 100000 in
set_option maxHeartbeats 1000000 in
theorem dopI_ok (p : Option Addr) (cap : Nat) (xs : List Int) (hcap : xs.length ≤ cap) (w : World) (hR : Rd w p xs) (h : permB xs = true) (hs : ShortP xs) (W : List Nat) (hW : Run xs 0 W) (hWl : W.length ≤ 448) (hWb : ∀ x ∈ wordOf W, 0 ≤ x ∧ x ≤ (xs.length : Int) - 2) :
    Calls Try.prog 31 #[.slice p xs.length cap] w fun e w' => e = .returned (.tuple #[.agg (dcells xs.length (valW xs.length (wordOf W)).1), .int .i64 0]) ∧ Below w.heap.size w w' := by
  have hR' := Lib.hid hR
  obtain ⟨hP, hp1⟩ := permB_prm h
  have h8 := hP.1
  have hc := Lib.hid (fun w hR => permI_any p cap xs (by omega) w hR)
  rw [h] at hc
  have hq := Lib.hid (fun w1 hR1 => (shortI_any p cap xs h8 hcap w1 hR1).mono fun e w' h => (show e = .returned (.bool true) ∧ Below w1.heap.size w1 w' from by
    obtain ⟨⟨b', h1, h2⟩, h3⟩ := h
    have : b' = true := by cases b' <;> simp_all
    exact ⟨by rw [h1, this], h3⟩))
  obtain ⟨ad, rfl⟩ := rd_some hR hp1
  have hex := Lib.hid (fun w1 hR1 => (exTo_any ad cap xs W hP hp1 hW hWl w1 hR1).mono fun e w' h => (show (∃ g c, e = .returned (.slice (some ⟨g, 0, none⟩) (wordOf W).length c) ∧ Rd w' (some ⟨g, 0, none⟩) (wordOf W)) ∧ Below w1.heap.size w1 w' from by
    obtain ⟨⟨g, c, h1, h2⟩, h3⟩ := h
    exact ⟨⟨g, c, h1, h2.rd⟩, h3⟩))
  have hwl : (wordOf W).length ≤ 1000 := by simp [wordOf]; omega
  have hv := Lib.hid (fun q c w hR => valueI_any xs.length q c (wordOf W) w (by omega) (by omega) hwl hWb hR)
  have hl := Lib.hid (valW_ok xs.length (wordOf W) (by omega) (by omega) hWb).1
  generalize (valW xs.length (wordOf W)).1 = ms at hv hl ⊢
  generalize (valW xs.length (wordOf W)).2 = t at hv
  generalize wordOf W = V at hex hv
  clear hR h hWb hW hs hP
  go_enter Try.func31, Try.ntmps31
  go_wp2_with (first
    | ((go_at_call 58; ((with_reducible refine (hc.out _ (hR'.out.below ((Below.refl _ _).alloc (Nat.le_refl _) _))).mono ?_); rintro e w1 ⟨rfl, hB1⟩)); have hO1 : Own w1 w.heap.size zcells 43 := (Own.new _ _ _).below hB1 (by simp); have b1 : Below w.heap.size w w1 := ((Below.refl _ _).alloc (Nat.le_refl _) _).trans (hB1.mono (by simp)))
    | ((go_at_call 59; ((with_reducible refine (hq.out _ (hR'.out.below b1)).mono ?_); rintro e w2 ⟨rfl, hB2⟩)); have hO2 := hO1.below hB2 hO1.lt; have b2 := b1.trans (hB2.mono b1.size))
    | ((go_at_call 61; ((with_reducible refine (hex.out _ (hR'.out.below b2)).mono ?_); rintro e w3 ⟨⟨g, c, rfl, hR3⟩, hB3⟩)); have hO3 := hO2.below hB3 hO2.lt; have b3 := b2.trans (hB3.mono b2.size))
    | ((go_at_call 60; ((with_reducible refine (hv.out _ _ _ hR3).mono ?_); rintro e w5 ⟨rfl, hB5⟩)); have hO5 := hO3.below hB5 hO3.lt; have b5 := b3.trans (hB5.mono b3.size))
    | ((refine wpList_store_own rfl 43 _ _ rfl _ _ rfl rfl 43 _ (Own.new w5 _ _) (row26 (d17 _ _ (hl.out))) (z_eq (d17 _ _ hl.out)) (dcells_one _ _) ?_; intro w6 hO6 hN6); have b6 := (b5.alloc b5.size _).trans (hN6.below.mono b5.size); have hO56 := (hO5.alloc _).only hN6 (Nat.ne_of_lt hO5.lt))
    | (refine wpList_load_row rfl 43 _ rfl _ rfl 43 _ (0, 0) _ (hO6) Try.underlying43 rfl (row26 (d17 _ _ (hl.out))) ?_)
    | (refine wpList_store_own rfl 43 _ _ rfl _ _ rfl rfl 43 _ (hO56) (row26 (d17 _ _ (hl.out))) (z_eq (d17 _ _ hl.out)) (dcells_one _ _) ?_; intro w7 hO7 hN7))
  refine bodyPost_ret (v := .tuple #[.agg (dcells xs.length ms), .int .i64 0]) (results_row_tmp rfl _ _ _ _ _ (0, 0) _ rfl (hO7) Try.underlying43 rfl (row26 (d17 _ _ (hl.out))) _ rfl) rfl (⟨rfl, b6.trans (hN7.below.mono (Nat.le_refl _))⟩)
end Go.Proofs.Ytbikpagoeeelbaa
