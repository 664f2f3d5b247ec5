/- Contract of the model's DescentsOf, and the law. -/
import Derived.Test.YtbgmfpofmdfbbaaDesc
import Derived.Test.YtbgmfpofmdfbbaaIntsAt
namespace Go.Proofs.Ytbgmfpofmdfbbaa
open Go.RowKit
set_option linter.unusedVariables false
theorem Ints.grown {w w' : World} {base g cap h : Nat} {xs : List Int} (hi : Ints w base g cap xs) (hg : w.grownBy w' (some h)) (hne : g ≠ h) : Ints w' base g cap xs := by
  obtain ⟨h1, h2, h3, cur, ho, hs, ht⟩ := hi
  exact ⟨h1, h2, h3, cur, ho.grown hg hne, hs, ht⟩
set_option maxRecDepth 100000 in
set_option maxHeartbeats 2000000 in
theorem descOfS_ok (n : Int) (ms : List Int) (hms : ms.length = 16) (hb : Bytes ms) (hd : isD n ms = true) (w : World) :
    Calls Try.prog 38 #[.agg (dcells n ms)] w (ResII (dsc ms 0 (n - 1).toNat) (dsc ms n (n - 1).toNat) 0 w) := by
  have hl := Lib.hid hms
  have hbb := Lib.hid hb
  have hc := Lib.hid (fun w => l01Is_dec n ms hms hb w)
  have hn := ((isD_iff n ms hms hb).1 hd).1
  rw [hd] at hc
  obtain ⟨h1, h8⟩ := hn
  obtain ⟨N, hN⟩ : ∃ N, (n - 1).toNat = N := ⟨_, rfl⟩
  rw [hN]
  have hN' := Lib.hid hN
  have hmk := mk0d
  clear hms hb hd hN
  go_enter Try.func38, Try.ntmps38
  go_wp2_with (first
    | (refine wpList_load_row rfl 25 _ rfl _ rfl 25 _ (0, 0) _ (Own.new _ _ _) Try.underlying25 rfl (row26 (d17 _ _ (hl.out))) ?_)
    | ((go_at_call 51; ((with_reducible refine (hc.out _).mono ?_); rintro e w1 ⟨rfl, hB1⟩)); have hO1 : Own w1 w.heap.size (dcells n ms) 25 := (Own.new _ _ _).below hB1 (by simp); have c0 := hO1.cell 0; rw [dcells_zero] at c0))
  have b0 : Below w.heap.size w (w.alloc (.cells (dcells n ms) 25)) := (Below.refl _ _).alloc (Nat.le_refl _) _
  have b1 := b0.trans (hB1.mono b0.size)
  have hOa : Own ((w1.alloc (.cells #[] 2)).alloc (.cells #[] 2)) w.heap.size (dcells n ms) 25 := (hO1.alloc _).alloc _
  have hlt1 := hO1.lt
  have hIa : Ints ((w1.alloc (.cells #[] 2)).alloc (.cells #[] 2)) (w.heap.size + 1) w1.heap.size 0 [] := (Ints.new w1 _ _ _ (by omega) rfl (by decide) #[] rfl).alloc _
  have hJa : Ints ((w1.alloc (.cells #[] 2)).alloc (.cells #[] 2)) (w.heap.size + 1) (w1.heap.size + 1) 0 [] := Ints.new _ _ _ _ (by simp; omega) (by simp) (by decide) #[] rfl
  have hBa : Below w.heap.size w ((w1.alloc (.cells #[] 2)).alloc (.cells #[] 2)) := (b1.alloc b1.size _).alloc (by simp; omega) _
  clear hmk c0 b0 b1 hB1 hO1
  go_loopw [6, 7, 8] (fun u v i wr => ∃ (k g cap g' cap' : Nat), k ≤ n - 1 ∧ i = .int .i64 k ∧ u = .slice (some ⟨g, 0, none⟩) (dsc ms 0 k).length cap ∧ v = .slice (some ⟨g', 0, none⟩) (dsc ms n k).length cap' ∧ g ≠ g' ∧ Own wr w.heap.size (dcells n ms) 25 ∧ Ints wr (w.heap.size + 1) g cap (dsc ms 0 k) ∧ Ints wr (w.heap.size + 1) g' cap' (dsc ms n k) ∧ Below w.heap.size w wr) (fun _ _ i _ => (n - 1 - intOf i).toNat)
  case atStart => exact ⟨0, _, _, _, _, by omega, rfl, rfl, rfl, by omega, hOa, hIa, hJa, hBa⟩
  case round =>
    clear hOa hIa hJa hBa
    obtain ⟨k, g, cap, g', cap', hk, rfl, rfl, rfl, hne, hO, hI, hJ, hB⟩ := hrel
    have hd1 := Lib.hid (dsc_len ms 0 k)
    have hd2 := Lib.hid (dsc_len ms n k)
    by_cases hlt : (k : Int) < n - 1
    · obtain ⟨a, ha⟩ : ∃ a, mate ms (k : Int) = a := ⟨_, rfl⟩
      obtain ⟨b, hb⟩ : ∃ b, mate ms (n + k) = b := ⟨_, rfl⟩
      have ma := hbb.out.get k
      have mb := hbb.out.get (n + k).toNat
      have ca : ∀ w', Own w' w.heap.size (dcells n ms) 25 → w'.cell? ⟨w.heap.size, 1 + k, none⟩ = some (.int .u8 a) := fun w' hO => by rw [hO.cell, dcells_get _ _ _ (by rw [hl.out]; omega)]; unfold mate at ha; rw [Int.toNat_natCast] at ha; rw [ha]
      have cb : ∀ w', Own w' w.heap.size (dcells n ms) 25 → w'.cell? ⟨w.heap.size, 1 + (n + k).toNat, none⟩ = some (.int .u8 b) := fun w' hO => by rw [hO.cell, dcells_get _ _ _ (by rw [hl.out]; omega)]; unfold mate at hb; rw [hb]
      have ha' := ha
      have hb' := hb
      unfold mate at ha' hb'
      rw [Int.toNat_natCast] at ha'
      rw [ha'] at ma
      rw [hb'] at mb
      obtain ⟨a0, a2⟩ := ma
      obtain ⟨b0, b2⟩ := mb
      have CA := Lib.hid ca
      have CB := Lib.hid cb
      have hsz := hB.size
      have hg := hI.1
      have hg' := hJ.1
      have hgl := hI.lt
      have hgl' := hJ.lt
      have hq : (dsc ms 0 k).length < 100 := by have := hd1.out; omega
      have hq2 : (dsc ms n k).length < 100 := by have := hd2.out; omega
      have k16 : (k : Int) < 16 := by omega
      have nk0 : 0 ≤ n + (k : Int) := by omega
      have nk16 : n + (k : Int) < 16 := by omega
      have s1 := Lib.hid (show dsc ms 0 (k + 1) = dsc ms 0 k ++ (if a = k + 1 then [(k : Int)] else []) by rw [dsc, Int.zero_add, ha])
      have s2 := Lib.hid (show dsc ms n (k + 1) = dsc ms n k ++ (if b = n + k + 1 then [(k : Int)] else []) by rw [dsc, hb])
      clear ca cb ha hb ha' hb'
      by_cases hc1 : a = k + 1
      · have t1 := Lib.hid (show dsc ms 0 (k + 1) = dsc ms 0 k ++ [(k : Int)] by rw [s1.out, if_pos hc1])
        have c1 := CA.out wr hO
        by_cases hc2 : b = n + k + 1
        · have t2 := Lib.hid (show dsc ms n (k + 1) = dsc ms n k ++ [(k : Int)] by rw [s2.out, if_pos hc2])
          go_wp2_with (first
            | (refine wpList_append_ints_at rfl (.tmp 46) (.tmp 48) rfl (w.heap.size + 1) g' cap' (dsc ms n k) k rfl (hJ2.alloc _) ⟨w2.heap.size, 0, none⟩ 1 rfl ((Own.new _ _ _).cell 0) (by omega) (by have := hO2.lt; simp <;> omega) ?_; intro g3 cap3 w3 hJ3 hG3 hat3)
            | (refine wpList_append_ints_at rfl (.tmp 30) (.tmp 32) rfl (w.heap.size + 1) g cap (dsc ms 0 k) k rfl (hI.alloc _) ⟨wr.heap.size, 0, none⟩ 1 rfl ((Own.new _ _ _).cell 0) (by omega) (by have := hO.lt; simp <;> omega) ?_; intro g2 cap2 w2 hI2 hG2 hat; have hO2 := (hO.alloc (.cells #[.int .i64 k] 2)).grown hG2 (by omega); have hJ2 := (hJ.alloc (.cells #[.int .i64 k] 2)).grown hG2 (by omega); have c2 := CB.out w2 hO2; have hB2 : Below w.heap.size w w2 := (hB.alloc hsz _).grown hG2 (by simp; omega) (fun k e => by simp at e; omega)))
          have hs2 := hB2.size
          have hO3 := (hO2.alloc (.cells #[.int .i64 k] 2)).grown hG3 (by omega)
          have hz2 := hG2.size
          simp at hz2 hat
          have hne2 : g2 ≠ g' := by rcases hat with h | h <;> omega
          have hI3 := (hI2.alloc (.cells #[.int .i64 k] 2)).grown hG3 hne2
          have hB3 : Below w.heap.size w w3 := (hB2.alloc hs2 _).grown hG3 (by simp; omega) (fun k e => by simp at e; omega)
          have hl2 := hI2.lt
          simp at hat3
          have hne3 : g2 ≠ g3 := by rcases hat3 with h | h <;> omega
          rw [← t1.out] at hI3
          rw [← t2.out] at hJ3
          clear hO hB hI hG2 hI2 hJ hJ2 hO2 hB2 hG3 s1 s2 hat hat3
          go_wp2
          go_roundw
          case rel => exact ⟨k + 1, g2, cap2, g3, cap3, by omega, by go_num, by rw [t1.out]; rfl, by rw [t2.out]; rfl, hne3, hO3, hI3, hJ3, hB3⟩
          case measure => simp [intOf]; omega
        · have t2 := Lib.hid (show dsc ms n (k + 1) = dsc ms n k by rw [s2.out, if_neg hc2, List.append_nil])
          go_wp2_with (first
            | (refine wpList_append_ints_at rfl (.tmp 30) (.tmp 32) rfl (w.heap.size + 1) g cap (dsc ms 0 k) k rfl (hI.alloc _) ⟨wr.heap.size, 0, none⟩ 1 rfl ((Own.new _ _ _).cell 0) (by omega) (by have := hO.lt; simp <;> omega) ?_; intro g2 cap2 w2 hI2 hG2 hat; have hO2 := (hO.alloc (.cells #[.int .i64 k] 2)).grown hG2 (by omega); have hJ2 := (hJ.alloc (.cells #[.int .i64 k] 2)).grown hG2 (by omega); have c2 := CB.out w2 hO2; have hB2 : Below w.heap.size w w2 := (hB.alloc hsz _).grown hG2 (by simp; omega) (fun k e => by simp at e; omega)))
          simp at hat
          have hne2 : g2 ≠ g' := by rcases hat with h | h <;> omega
          rw [← t1.out] at hI2
          go_roundw
          case rel => exact ⟨k + 1, g2, cap2, g', cap', by omega, by go_num, by rw [t1.out]; rfl, by rw [t2.out], hne2, hO2, hI2, by rw [t2.out]; exact hJ2, hB2⟩
          case measure => simp [intOf]; omega
      · have t1 := Lib.hid (show dsc ms 0 (k + 1) = dsc ms 0 k by rw [s1.out, if_neg hc1, List.append_nil])
        have c1 := CA.out wr hO
        have c2 := CB.out wr hO
        by_cases hc2 : b = n + k + 1
        · have t2 := Lib.hid (show dsc ms n (k + 1) = dsc ms n k ++ [(k : Int)] by rw [s2.out, if_pos hc2])
          go_wp2_with (first
            | (refine wpList_append_ints_at rfl (.tmp 46) (.tmp 48) rfl (w.heap.size + 1) g' cap' (dsc ms n k) k rfl (hJ.alloc _) ⟨wr.heap.size, 0, none⟩ 1 rfl ((Own.new _ _ _).cell 0) (by omega) (by have := hO.lt; simp <;> omega) ?_; intro g3 cap3 w3 hJ3 hG3 hat3))
          have hO3 := (hO.alloc (.cells #[.int .i64 k] 2)).grown hG3 (by omega)
          have hI3 := (hI.alloc (.cells #[.int .i64 k] 2)).grown hG3 hne
          have hB3 : Below w.heap.size w w3 := (hB.alloc hsz _).grown hG3 (by simp; omega) (fun k e => by simp at e; omega)
          simp at hat3
          have hne3 : g ≠ g3 := by rcases hat3 with h | h <;> omega
          rw [← t2.out] at hJ3
          clear hO hB hI hJ hG3 s1 s2 hat3
          go_wp2
          go_roundw
          case rel => exact ⟨k + 1, g, cap, g3, cap3, by omega, by go_num, by rw [t1.out], by rw [t2.out]; rfl, hne3, hO3, by rw [t1.out]; exact hI3, hJ3, hB3⟩
          case measure => simp [intOf]; omega
        · have t2 := Lib.hid (show dsc ms n (k + 1) = dsc ms n k by rw [s2.out, if_neg hc2, List.append_nil])
          go_wp2
          go_roundw
          case rel => exact ⟨k + 1, g, cap, g', cap', by omega, by go_num, by rw [t1.out], by rw [t2.out], hne, hO, by rw [t1.out]; exact hI, by rw [t2.out]; exact hJ, hB⟩
          case measure => simp [intOf]; omega
    · have e : N = k := by have := hN'.out; omega
      subst e
      have hM := Lib.hid (Mn.ints (B := w.heap.size) (Nat.le_succ _) hI)
      have hM' := Lib.hid (Mn.ints (B := w.heap.size) (Nat.le_succ _) hJ)
      have hne' := Lib.hid hne
      clear hne
      go_wp2
      go_ret3
      exact ⟨some ⟨g, 0, none⟩, some ⟨g', 0, none⟩, cap, cap', rfl, hM.out, hM'.out, fun a e1 e2 => (by cases e1; simp at e2; exact hne'.out e2.symm), hB⟩
end Go.Proofs.Ytbgmfpofmdfbbaa
