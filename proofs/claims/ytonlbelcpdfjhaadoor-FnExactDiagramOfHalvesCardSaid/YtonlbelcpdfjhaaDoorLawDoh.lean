/- The law of DiagramOfHalves. -/
import Derived.Test.YtonlbelcpdfjhaaDoorHvE
import Derived.Test.YtonlbelcpdfjhaaDoorHdS
import Derived.Test.YtonlbelcpdfjhaaDoorDoh
import Derived.Test.YtonlbelcpdfjhaaDoorCnt
import Derived.Test.YtonlbelcpdfjhaaDoorLawIsH
import Derived.Test.YtonlbelcpdfjhaaDoorLawA
namespace Go.Proofs.YtonlbelcpdfjhaaDoor
open Go.RowKit
theorem some_of {l : List UInt8} (h : isHf l = true) : ∃ o, arcO l = some o := by
  unfold isHf at h
  cases hq : arcO l with
  | none => rw [hq] at h; cases h
  | some o => exact ⟨o, rfl⟩
theorem doh_both (a b : ByteArray) (m : Int) (w : World) (hm : Ml w m) (ha : a.size ≤ 1048576) (hb : b.size ≤ 1048576) :
    ∃ (n0 : Int) (ms0 : List Int) (c : Int), ms0.length = 16 ∧
      (∀ w1, Below w.heap.size w w1 → Calls Tryd.prog 28 #[.string a, .string b] w1 fun e w2 => e = .returned (.tuple #[.agg (dcells n0 ms0), .int .i64 c]) ∧ Below w1.heap.size w1 w2) ∧
      (∀ w1, Below w.heap.size w w1 → Calls Tryd.prog 27 #[.string a, .string b] w1 fun e w2 => e = .returned (.tuple #[.agg (dcells n0 ms0), .int .i64 c]) ∧ Below w1.heap.size w1 w2) := by
  have hm' : ∀ w1, Below w.heap.size w w1 → Ml w1 m := fun w1 h => hm.below h hm.lt
  have IA : ∀ w1, Ml w1 m → _ := fun w1 h => isHalfI_is a m w1 h ha
  have IB : ∀ w1, Ml w1 m → _ := fun w1 h => isHalfI_is b m w1 h hb
  have SA : ∀ w1, Calls Tryd.prog 61 #[.string a] w1 fun e w' => e = .returned (.bool (isHf a.data.toList)) ∧ Below w1.heap.size w1 w' := fun w1 => l04Is_any a w1 ha
  have SB : ∀ w1, Calls Tryd.prog 61 #[.string b] w1 fun e w' => e = .returned (.bool (isHf b.data.toList)) ∧ Below w1.heap.size w1 w' := fun w1 => l04Is_any b w1 hb
  cases h1 : isHf a.data.toList with
  | false =>
    rw [h1] at IA SA
    exact ⟨0, zeros, 1, rfl, fun w1 h => dohS_bad1 a b w1 (fun w2 _ => SA w2), fun w1 h => dohI_bad1 a b w1 (fun w2 h2 => IA w2 ((hm' w1 h).below h2 (hm' w1 h).lt))⟩
  | true =>
    rw [h1] at IA SA
    cases h2 : isHf b.data.toList with
    | false =>
      rw [h2] at IB SB
      exact ⟨0, zeros, 1, rfl, fun w1 h => dohS_bad2 a b w1 (fun w2 _ => SA w2) (fun w2 _ => SB w2), fun w1 h => dohI_bad2 a b w1 (fun w2 h2 => IA w2 ((hm' w1 h).below h2 (hm' w1 h).lt)) (fun w2 h2 => IB w2 ((hm' w1 h).below h2 (hm' w1 h).lt))⟩
    | true =>
      rw [h2] at IB SB
      by_cases hne : (a.size : Int) = (b.size : Int)
      · by_cases hcc : cnt a.data.toList = cnt b.data.toList
        · obtain ⟨o1, e1⟩ := some_of h1
          obtain ⟨o2, e2⟩ := some_of h2
          have hs : a.size = b.size := by omega
          have hl : a.data.toList.length = b.data.toList.length := by rw [Array.length_toList, Array.length_toList]; exact hs
          obtain ⟨g1, g2⟩ := okD_all e1 e2 hl (by unfold cnt at hcc; omega)
          have la : a.data.toList.length = a.size := by rw [Array.length_toList]; rfl
          rw [la] at g1 g2
          exact ⟨a.size, dmS a.size o1 o2, 0, dmS_len _ _ _, fun w1 h => dohS_ok a b w1 (fun w2 _ => SA w2) (fun w2 _ => SB w2) hne _ _ (fun w2 => cntS_any a w2 ha) (fun w2 => cntS_any b w2 hb) hcc _ _ (dmS_len _ _ _) (fun w2 _ => hdS_any a b a.size rfl hs.symm o1 o2 e1 e2 g1 w2),
            fun w1 h => dohI_ok a b w1 (fun w2 h2 => IA w2 ((hm' w1 h).below h2 (hm' w1 h).lt)) (fun w2 h2 => IB w2 ((hm' w1 h).below h2 (hm' w1 h).lt)) hne _ _ (fun w2 => cntI_any a w2) (fun w2 => cntI_any b w2) hcc _ _ (dmS_len _ _ _) (fun w2 h2 => hdI_any a b m w2 ((hm' w1 h).below h2 (hm' w1 h).lt) ha hb _ _ g2)⟩
        · exact ⟨0, zeros, 2, rfl, fun w1 h => dohS_cnt a b w1 (fun w2 _ => SA w2) (fun w2 _ => SB w2) hne _ _ (fun w2 => cntS_any a w2 ha) (fun w2 => cntS_any b w2 hb) hcc,
            fun w1 h => dohI_cnt a b w1 (fun w2 h2 => IA w2 ((hm' w1 h).below h2 (hm' w1 h).lt)) (fun w2 h2 => IB w2 ((hm' w1 h).below h2 (hm' w1 h).lt)) hne _ _ (fun w2 => cntI_any a w2) (fun w2 => cntI_any b w2) hcc⟩
      · exact ⟨0, zeros, 2, rfl, fun w1 h => dohS_size a b w1 (fun w2 _ => SA w2) (fun w2 _ => SB w2) hne,
          fun w1 h => dohI_size a b w1 (fun w2 h2 => IA w2 ((hm' w1 h).below h2 (hm' w1 h).lt)) (fun w2 h2 => IB w2 ((hm' w1 h).below h2 (hm' w1 h).lt)) hne⟩
set_option maxRecDepth 100000 in
set_option maxHeartbeats 1000000 in
theorem doh_law (a b : ByteArray) (m : Int) (w : World) (hm : Ml w m) (hz : a.size ≤ maxLen) (hz' : b.size ≤ maxLen) :
    Calls Tryd.prog 6 #[.string a, .string b] w fun e w' => e = .returned (.bool true) ∧ Below w.heap.size w w' := by
  unfold maxLen at hz hz'
  by_cases h : (1048576 : Int) < (a.size : Int)
  · go_enter Tryd.func6, Tryd.ntmps6
    go_wp2
    go_ret
    exact ⟨rfl, Below.refl _ _⟩
  · by_cases h' : (1048576 : Int) < (b.size : Int)
    · go_enter Tryd.func6, Tryd.ntmps6
      go_wp2
      go_ret
      exact ⟨rfl, Below.refl _ _⟩
    · obtain ⟨n0, ms0, c, hl, hS, hI⟩ := doh_both a b m w hm (by omega) (by omega)
      have hl := Lib.hid hl
      have hS := Lib.hid hS
      have hI := Lib.hid hI
      clear hm
      go_enter Tryd.func6, Tryd.ntmps6
      go_wp2_with (first
        | (go_at_call 28; ((with_reducible refine (hS.out _ (Below.refl _ w)).mono ?_); rintro e w1 ⟨rfl, hB1⟩))
        | (refine wpList_store_own rfl 35 _ _ rfl _ _ rfl rfl 35 _ (Own.new w1 _ _) (row26 (d17 _ _ (hl.out))) (z_eq (d17 _ _ hl.out)) (dcells_one _ _) ?_; intro w2 hO2 hN2)
        | (go_at_call 27; ((with_reducible refine (hI.out w2 ((hB1.alloc hB1.size _).trans (hN2.below.mono hB1.size))).mono ?_); rintro e w3 ⟨rfl, hB3⟩; have hBw : Below w.heap.size w w3 := ((hB1.alloc hB1.size _).trans (hN2.below.mono hB1.size)).trans (hB3.mono ((hB1.alloc hB1.size _).trans (hN2.below.mono hB1.size)).size); have hP := hO2.below hB3 hO2.lt))
        | (refine wpList_store_own rfl 35 _ _ rfl _ _ rfl rfl 35 _ (Own.new w3 _ _) (row26 (d17 _ _ (hl.out))) (z_eq (d17 _ _ hl.out)) (dcells_one _ _) ?_; intro w4 hO4 hN4)
        | (refine wpList_load_row rfl 35 _ rfl _ rfl 35 _ (0, 0) _ (hO4) Tryd.underlying35 rfl (row26 (d17 _ _ (hl.out))) ?_)
        | (refine wpList_load_row rfl 35 _ rfl _ rfl 35 _ (0, 0) _ ((hP.alloc _).only hN4 (Nat.ne_of_lt hP.lt)) Tryd.underlying35 rfl (row26 (d17 _ _ (hl.out))) ?_)
        | (go_at_call 45; ((with_reducible refine (eqD_same n0 ms0 hl.out w4).mono ?_); rintro e w5 ⟨rfl, hB5⟩)))
      go_ret
      have b4 := (hBw.alloc hBw.size _).trans (hN4.below.mono hBw.size)
      exact ⟨rfl, b4.trans (hB5.mono b4.size)⟩
end Go.Proofs.YtonlbelcpdfjhaaDoor
