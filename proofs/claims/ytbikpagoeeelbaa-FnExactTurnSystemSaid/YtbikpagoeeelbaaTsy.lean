/- TurnSystem: the program's, the model's, the law. -/
import Derived.Test.YtbikpagoeeelbaaStx
import Derived.Test.YtbikpagoeeelbaaLawA
namespace Go.Proofs.Ytbikpagoeeelbaa
open Go.RowKit
set_option linter.unusedVariables false
set_option linter.unusedSimpArgs false
theorem tsyI_none (s : ByteArray) (w : World) (hm : s.size ≤ 1048576) (h : sarc s.data.toList = none) :
    Calls Try.prog 25 #[.string s] w fun e w' => e = .returned (.tuple #[.string ⟨#[]⟩, .int .i64 1]) ∧ Below w.heap.size w w' := by
  have hc := Lib.hid (fun w => ari_no s w hm h)
  clear h
  go_enter Try.func25, Try.ntmps25
  go_wp2_with (first
    | (go_at_call 36; ((with_reducible refine (hc.out _).mono ?_); rintro e w1 ⟨rfl, hB1⟩)))
  go_ret2
  exact ⟨rfl, hB1⟩
theorem tsyS_none (s : ByteArray) (w : World) (hm : s.size ≤ 1048576) (h : sarc s.data.toList = none) :
    Calls Try.prog 24 #[.string s] w fun e w' => e = .returned (.tuple #[.string ⟨#[]⟩, .int .i64 1]) ∧ Below w.heap.size w w' := by
  have hc := Lib.hid (fun w => sar_none s w hm h)
  clear h
  go_enter Try.func24, Try.ntmps24
  go_wp2_with (first
    | (go_at_call 41; ((with_reducible refine (hc.out _).mono ?_); rintro e w1 ⟨o, ho, rfl, hB1⟩))
    | (refine wpList_store_own rfl 55 _ _ rfl _ _ rfl rfl 55 _ (Own.new w1 _ _) (row12i (i12s _ (ho))) (st12 ho) (one12i _) ?_; intro w2 hO2 hN2))
  go_ret2
  exact ⟨rfl, (hB1.alloc hB1.size _).trans (hN2.below.mono hB1.size)⟩
set_option maxRecDepth 100000 in
set_option maxHeartbeats 1000000 in
theorem tsyI_some (s : ByteArray) (w : World) (hm : s.size ≤ 1048576) (o : List Int) (h : sarc s.data.toList = some o) (n : Nat) (hn : s.size = n) (xs : List Int) (hxs : o.take n = xs) :
    Calls Try.prog 25 #[.string s] w fun e w' => e = .returned (.tuple #[.string (strT (tL xs n n) n), .int .i64 0]) ∧ Below w.heap.size w w' := by
  have hc := Lib.hid (fun w => ari_yes s w hm o h)
  have S := sarc_sys h
  rw [size_list, hn] at S
  rw [hn, hxs] at hc
  have hL := Lib.hid (show xs.length = n by rw [← hxs, List.length_take, S.len]; have := S.top; omega)
  have hA := Lib.hid (show ∀ j : Nat, j < n → 0 ≤ xs.getD j 0 ∧ xs.getD j 0 < n from fun j hj => by rw [← hxs, gtake _ _ _ hj]; have := S.arc j hj; exact ⟨this.1, this.2.1⟩)
  have h2 := S.two
  have h12 := S.top
  have hT := Lib.hid (fun g w => atxI_any (tL xs n n) n (tL_len xs n n) h12 g w)
  have hmk := makeA n (by omega)
  clear h hm S hxs
  go_enter Try.func25, Try.ntmps25
  go_wp2_with (first
    | (go_at_call 36; ((with_reducible refine (hc.out _).mono ?_); rintro e w1 ⟨g, hg, rfl, hO1, hB1⟩)))
  have hG1 : Own (w1.alloc (.cells (icells (List.replicate n 0)) 2)) g (icells xs) 2 := hO1.alloc _
  have hT1 : Own (w1.alloc (.cells (icells (List.replicate n 0)) 2)) w1.heap.size (icells (tL xs n 0)) 2 := Own.new _ _ _
  have hBa := hB1.alloc hB1.size (.cells (icells (List.replicate n 0)) 2)
  have hne : g ≠ w1.heap.size := Nat.ne_of_lt hO1.lt
  have hge := hB1.size
  obtain ⟨b, hb⟩ : ∃ b, w1.heap.size = b := ⟨_, rfl⟩
  rw [hb] at hT1 hne hge
  rw [hb]
  clear hmk hO1
  generalize w1.alloc (.cells (icells (List.replicate n 0)) 2) = wa at *
  go_wp2
  go_loopw [21] (fun i wr => ∃ k : Nat, k ≤ n ∧ i = .int .i64 k ∧ Own wr g (icells xs) 2 ∧ Own wr b (icells (tL xs n k)) 2 ∧ Below w.heap.size w wr) (fun i _ => ((n : Int) - intOf i).toNat)
  case atStart => exact ⟨0, by omega, rfl, hG1, hT1, hBa⟩
  case round =>
    clear hG1 hT1 hBa
    obtain ⟨k, hk, rfl, hG, hT', hB⟩ := hrel
    by_cases hlt : k < n
    · have hltI : (k : Int) < n := by omega
      have hml := Lib.hid (tL_len xs n k)
      have hst := Lib.hid (show tL xs n (k + 1) = (tL xs n k).set ((k + 1) % n) ((xs.getD k 0 + 1) % n) from rfl)
      have c1 := hG.cell k
      rw [icells_get _ _ (by rw [hL.out]; exact hlt)] at c1
      have bx := hA.out k hlt
      obtain ⟨x, hx⟩ : ∃ x, xs.getD k 0 = x := ⟨_, rfl⟩
      rw [hx] at c1 hst bx
      obtain ⟨bx0, bx1⟩ := bx
      obtain ⟨q, hq⟩ : ∃ q, (k + 1) % n = q := ⟨_, rfl⟩
      have hq2 : q < n := by rw [← hq]; exact Nat.mod_lt _ (by omega)
      have hqI : ((k : Int) + 1) % (n : Int) = (q : Int) := by rw [← hq]; simp
      rw [hq] at hst
      have hy0 : 0 ≤ (x + 1) % (n : Int) := Int.emod_nonneg _ (by omega)
      have hy1 : (x + 1) % (n : Int) < n := Int.emod_lt_of_pos _ (by omega)
      obtain ⟨y, hy⟩ : ∃ y, (x + 1) % (n : Int) = y := ⟨_, rfl⟩
      rw [hy] at hst hy0 hy1
      have c2 : wr.cell? ⟨b, q, none⟩ = some (.int .i64 ((tL xs n k).getD q 0)) := by rw [hT'.cell, icells_get _ _ (by rw [hml.out]; omega)]
      have f2 := hT'.free q
      have hT2 := hT'.set q (.int .i64 y)
      rw [icells_set, ← hst.out] at hT2
      have hG2 := hG.other (a := ⟨b, q, none⟩) hne.symm (.int .i64 y)
      have hB2 := hB.setCell (p := ⟨b, q, none⟩) hge (.int .i64 y)
      have K1 := Lib.hid hT2
      have K2 := Lib.hid hG2
      have K3 := Lib.hid hB2
      have hn0 : (n : Int) ≠ 0 := by omega
      clear hx hq hT2 hG2 hB2 hT' hG
      go_wp2
      go_region
      go_wp2
      go_roundw
      case rel => exact ⟨k + 1, by omega, by go_num, K2.out.drewN _, K1.out.drewN _, Below.drewN K3.out _⟩
      case measure => simp [intOf]; omega
    · have e : k = n := by omega
      subst e
      go_wp2_with (first
        | (go_at_call 49; ((with_reducible refine (hT.out b _ hT').mono ?_); rintro e w2 ⟨rfl, hB2⟩)))
      go_ret2
      exact ⟨rfl, hB.trans (hB2.mono hB.size)⟩
set_option maxRecDepth 100000 in
set_option maxHeartbeats 1000000 in
theorem tsyS_some (s : ByteArray) (w : World) (hm : s.size ≤ 1048576) (o : List Int) (h : sarc s.data.toList = some o) (n : Nat) (hn : s.size = n) (xs : List Int) (hxs : o.take n = xs) :
    Calls Try.prog 24 #[.string s] w fun e w' => e = .returned (.tuple #[.string (strT (tL xs n n) n), .int .i64 0]) ∧ Below w.heap.size w w' := by
  have hc := Lib.hid (fun w => sar_some s w hm o h)
  have S := sarc_sys h
  rw [size_list, hn] at S
  have hA := Lib.hid (show ∀ j : Nat, j < n → 0 ≤ o.getD j 0 ∧ o.getD j 0 < n from fun j hj => by have := S.arc j hj; exact ⟨this.1, this.2.1⟩)
  have hX := Lib.hid (show ∀ j : Nat, j < n → xs.getD j 0 = o.getD j 0 from fun j hj => by rw [← hxs, gtake _ _ _ hj])
  have ho := Lib.hid S.len
  have h2 := S.two
  have h12 := S.top
  have hT := Lib.hid (fun g cp w => stx_any (tL xs n n) n (tL_len xs n n) h12 g cp w)
  have hmk := makeI n (by omega)
  clear h hm S hxs
  go_enter Try.func24, Try.ntmps24
  go_wp2_with (first
    | (go_at_call 41; ((with_reducible refine (hc.out _).mono ?_); rintro e w1 ⟨rfl, hB1⟩))
    | (refine wpList_store_own rfl 55 _ _ rfl _ _ rfl rfl 55 _ (Own.new w1 _ _) (row12i (i12s _ (ho.out))) (st12 ho.out) (one12i _) ?_; intro w2 hO2 hN2))
  have hB2 := (hB1.alloc hB1.size _).trans (hN2.below.mono hB1.size)
  have hG1 : Own (w2.alloc (.cells (icells (List.replicate n 0)) 2)) w1.heap.size (icells o) 55 := hO2.alloc _
  have hT1 : Own (w2.alloc (.cells (icells (List.replicate n 0)) 2)) w2.heap.size (icells (tL xs n 0)) 2 := Own.new _ _ _
  have hBa := hB2.alloc hB2.size (.cells (icells (List.replicate n 0)) 2)
  have hne : w1.heap.size ≠ w2.heap.size := Nat.ne_of_lt hO2.lt
  have hge := hB2.size
  obtain ⟨b, hb⟩ : ∃ b, w2.heap.size = b := ⟨_, rfl⟩
  obtain ⟨g, hg⟩ : ∃ g, w1.heap.size = g := ⟨_, rfl⟩
  rw [hb] at hT1 hne hge
  rw [hg] at hG1 hne
  rw [hb, hg]
  clear hmk hO2 hN2 hg
  generalize w2.alloc (.cells (icells (List.replicate n 0)) 2) = wa at *
  go_wp2
  go_loopw [8] (fun i wr => ∃ k : Nat, k ≤ n ∧ i = .int .i64 k ∧ Own wr g (icells o) 55 ∧ Own wr b (icells (tL xs n k)) 2 ∧ Below w.heap.size w wr) (fun i _ => ((n : Int) - intOf i).toNat)
  case atStart => exact ⟨0, by omega, rfl, hG1, hT1, hBa⟩
  case round =>
    clear hG1 hT1 hBa
    obtain ⟨k, hk, rfl, hG, hT', hB⟩ := hrel
    by_cases hlt : k < n
    · have hltI : (k : Int) < n := by omega
      have hk12 : (k : Int) < 12 := by omega
      have hml := Lib.hid (tL_len xs n k)
      have hst := Lib.hid (show tL xs n (k + 1) = (tL xs n k).set ((k + 1) % n) ((xs.getD k 0 + 1) % n) from rfl)
      rw [hX.out k hlt] at hst
      have c1 := hG.cell k
      rw [icells_get _ _ (by rw [ho.out]; omega)] at c1
      have bx := hA.out k hlt
      obtain ⟨x, hx⟩ : ∃ x, o.getD k 0 = x := ⟨_, rfl⟩
      rw [hx] at c1 hst bx
      obtain ⟨bx0, bx1⟩ := bx
      obtain ⟨q, hq⟩ : ∃ q, (k + 1) % n = q := ⟨_, rfl⟩
      have hq2 : q < n := by rw [← hq]; exact Nat.mod_lt _ (by omega)
      have hqI : ((k : Int) + 1) % (n : Int) = (q : Int) := by rw [← hq]; simp
      rw [hq] at hst
      have hy0 : 0 ≤ (x + 1) % (n : Int) := Int.emod_nonneg _ (by omega)
      have hy1 : (x + 1) % (n : Int) < n := Int.emod_lt_of_pos _ (by omega)
      obtain ⟨y, hy⟩ : ∃ y, (x + 1) % (n : Int) = y := ⟨_, rfl⟩
      rw [hy] at hst hy0 hy1
      have c2 : wr.cell? ⟨b, q, none⟩ = some (.int .i64 ((tL xs n k).getD q 0)) := by rw [hT'.cell, icells_get _ _ (by rw [hml.out]; omega)]
      have f2 := hT'.free q
      have hT2 := hT'.set q (.int .i64 y)
      rw [icells_set, ← hst.out] at hT2
      have hG2 := hG.other (a := ⟨b, q, none⟩) hne.symm (.int .i64 y)
      have hB2 := hB.setCell (p := ⟨b, q, none⟩) hge (.int .i64 y)
      have K1 := Lib.hid hT2
      have K2 := Lib.hid hG2
      have K3 := Lib.hid hB2
      have hn0 : (n : Int) ≠ 0 := by omega
      clear hx hq hT2 hG2 hB2 hT' hG
      go_wp2
      go_region
      go_wp2
      go_roundw
      case rel => exact ⟨k + 1, by omega, by go_num, K2.out.drewN _, K1.out.drewN _, Below.drewN K3.out _⟩
      case measure => simp [intOf]; omega
    · have e : k = n := by omega
      subst e
      go_wp2_with (first
        | (go_at_call 45; ((with_reducible refine (hT.out b _ _ hT').mono ?_); rintro e w3 ⟨rfl, hB3⟩)))
      go_ret2
      exact ⟨rfl, hB.trans (hB3.mono hB.size)⟩
theorem tsy_law (s : ByteArray) (w : World) (hl : s.size ≤ maxLen) :
    Calls Try.prog 7 #[.string s] w fun e w' => e = .returned (.bool true) ∧ Below w.heap.size w w' := by
  unfold maxLen at hl
  by_cases hm : s.size ≤ 1048576
  · obtain ⟨t, c, hS, hI⟩ : ∃ (t : ByteArray) (c : Int), (∀ w, Calls Try.prog 24 #[.string s] w fun e w' => e = .returned (.tuple #[.string t, .int .i64 c]) ∧ Below w.heap.size w w') ∧ (∀ w, Calls Try.prog 25 #[.string s] w fun e w' => e = .returned (.tuple #[.string t, .int .i64 c]) ∧ Below w.heap.size w w') := by
      cases h : sarc s.data.toList with
      | none => exact ⟨_, _, fun w => tsyS_none s w hm h, fun w => tsyI_none s w hm h⟩
      | some o => exact ⟨_, _, fun w => tsyS_some s w hm o h _ rfl _ rfl, fun w => tsyI_some s w hm o h _ rfl _ rfl⟩
    have hS := Lib.hid hS
    have hI := Lib.hid hI
    have c1 : ¬ (1048576 : Int) < (s.size : Int) := by omega
    clear hm
    go_enter Try.func7, Try.ntmps7
    go_wp2_with (first
      | (go_at_call 24; ((with_reducible refine (hS.out _).mono ?_); rintro e w1 ⟨rfl, hB1⟩))
      | (go_at_call 25; ((with_reducible refine (hI.out _).mono ?_); rintro e w2 ⟨rfl, hB2⟩)))
    go_ret
    exact ⟨rfl, hB1.trans (hB2.mono hB1.size)⟩
  · have c1 : (1048576 : Int) < (s.size : Int) := by omega
    clear hm
    go_enter Try.func7, Try.ntmps7
    go_wp2
    go_ret
    exact ⟨rfl, Below.refl _ _⟩
end Go.Proofs.Ytbikpagoeeelbaa
