/- slices.Reverse over numbers. -/
import Derived.Test.YtbikpagoeeelbaaSortA
namespace Go.Proofs.Ytbikpagoeeelbaa
open Go.RowKit
set_option linter.unusedVariables false
/-- The first k and the last k numbers have changed places. -/
def Rv (xs ys : List Int) (k : Nat) : Prop := ys.length = xs.length ∧ ∀ j, j < xs.length → ys.getD j 0 = if j < k ∨ xs.length ≤ j + k then xs.getD (xs.length - 1 - j) 0 else xs.getD j 0
theorem Rv.start (xs : List Int) : Rv xs xs 0 := ⟨rfl, fun j hj => by rw [if_neg (by omega)]⟩
theorem Rv.next {xs ys : List Int} {k : Nat} (h : Rv xs ys k) (hk : 2 * k + 1 < xs.length) : Rv xs ((ys.set k (ys.getD (xs.length - 1 - k) 0)).set (xs.length - 1 - k) (ys.getD k 0)) (k + 1) := by
  obtain ⟨h1, h2⟩ := h
  refine ⟨by simpa using h1, fun j hj => ?_⟩
  have a := h2 k (by omega)
  have b := h2 (xs.length - 1 - k) (by omega)
  rw [if_neg (by omega)] at a b
  rw [a, b]
  have e : ∀ u v : Int, ((ys.set k u).set (xs.length - 1 - k) v).getD j 0 = if xs.length - 1 - k = j then v else if k = j then u else ys.getD j 0 := by
    intro u v
    rw [List.getD_eq_getElem?_getD, List.getElem?_set, List.getElem?_set, List.length_set]
    by_cases h3 : xs.length - 1 - k = j
    · rw [if_pos h3, if_pos h3, if_pos (by omega)]; rfl
    · rw [if_neg h3, if_neg h3]
      by_cases h4 : k = j
      · rw [if_pos h4, if_pos h4, if_pos (by omega)]; rfl
      · rw [if_neg h4, if_neg h4, List.getD_eq_getElem?_getD]
  rw [e]
  by_cases h3 : xs.length - 1 - k = j
  · rw [if_pos h3, if_pos (by omega), show xs.length - 1 - j = k by omega]
  · rw [if_neg h3]
    by_cases h4 : k = j
    · rw [if_pos h4, if_pos (by omega), h4]
    · rw [if_neg h4, h2 j hj]
      by_cases h5 : j < k ∨ xs.length ≤ j + k
      · rw [if_pos h5, if_pos (by omega)]
      · rw [if_neg h5, if_neg (by omega)]
theorem Rv.all {xs ys : List Int} {k : Nat} (h : Rv xs ys k) (hk : xs.length ≤ 2 * k + 1) : ys = xs.reverse := by
  obtain ⟨h1, h2⟩ := h
  apply List.ext_getElem (by simpa using h1)
  intro j hj hj2
  have := h2 j (by omega)
  rw [List.getD_eq_getElem?_getD, List.getElem?_eq_getElem hj, Option.getD_some] at this
  rw [this, List.getElem_reverse]
  split
  · rw [List.getD_eq_getElem?_getD, List.getElem?_eq_getElem (by omega), Option.getD_some]
  · have e : j = xs.length - 1 - j := by omega
    rw [List.getD_eq_getElem?_getD, List.getElem?_eq_getElem (by omega), Option.getD_some]
    congr 1
set_option maxRecDepth 100000 in
set_option maxHeartbeats 1000000 in
theorem reverse_any (base g cap : Nat) (xs : List Int) (hx : xs.length ≤ 1048576) (w : World) (hI : Ints w base g cap xs) :
    Calls Try.prog 79 #[ival g cap xs] w fun e w' => e = .returned (.tuple #[]) ∧ Ints w' base g cap xs.reverse ∧ Only g w w' := by
  obtain ⟨m, hm⟩ : ∃ m, xs.length = m := ⟨_, rfl⟩
  have hM := Lib.hid hm
  unfold ival
  rw [hm] at hx ⊢
  clear hm
  go_enter Try.func79, Try.ntmps79
  go_wp2
  go_loopw [2, 3] (fun i j wr => ∃ (k : Nat) (ys : List Int), 2 * k ≤ m + 1 ∧ i = .int .i64 k ∧ j = .int .i64 ((m : Int) - 1 - k) ∧ Hid (Rv xs ys k) ∧ Ints wr base g cap ys ∧ Only g w wr) (fun i _ _ => ((m : Int) - intOf i).toNat)
  case atStart => exact ⟨0, xs, by omega, rfl, by simp, Lib.hid (Rv.start xs), hI, Only.refl _ _⟩
  case round =>
    clear hI
    obtain ⟨k, ys, hk, rfl, rfl, hR, hI, hN⟩ := hrel
    by_cases hlt : 2 * k + 1 < m
    · obtain ⟨q, hq⟩ : ∃ q, m - 1 - k = q := ⟨_, rfl⟩
      have eq : (m : Int) - 1 - k = q := by omega
      have hq2 := Lib.hid hq
      have hyl : ys.length = m := by rw [hR.out.1]; exact hM.out
      have hR2 := Lib.hid (show Rv xs ((ys.set k (ys.getD q 0)).set q (ys.getD k 0)) (k + 1) from by have := Rv.next hR.out (by rw [hM.out]; exact hlt); rwa [hM.out, hq] at this)
      have i1 : (k : Int) < (q : Int) := by omega
      have q8 : q < m := by omega
      have k8 : k < m := by omega
      rw [eq]
      have c1 := hI.cell k (by omega)
      have c2 := hI.cell q (by omega)
      have f1 := hI.free k
      have f2 := hI.free q
      have c3 := (hI.put k (ys.getD q 0)).cell q (by simp; omega)
      have c4 := (hI.put q (ys.getD k 0)).cell k (by simp; omega)
      have hI2 := Lib.hid ((hI.put k (ys.getD q 0)).put q (ys.getD k 0))
      have hN2 := Lib.hid (hN.trans ((Only.set g k wr (.int .i64 (ys.getD q 0))).trans (Only.set g q _ (.int .i64 (ys.getD k 0)))))
      have eq2 : (q : Int) - 1 = (m : Int) - 1 - ((k + 1 : Nat) : Int) := by omega
      generalize ys.getD q 0 = y at *
      generalize ys.getD k 0 = x at *
      clear hI hN hR hyl hq eq
      go_wp2
      go_region
      go_wp2
      go_roundw
      case rel => exact ⟨k + 1, _, by omega, by go_num, by (congr 1 <;> omega), hR2, hI2.out.drewN 1, hN2.out.drewN 1⟩
      case measure => simp [intOf]; omega
    · have hE := Lib.hid (show Ints wr base g cap xs.reverse from by rw [← Rv.all hR.out (by rw [hM.out]; omega)]; exact hI)
      have i1 : ¬ (k : Int) < (m : Int) - 1 - k := by omega
      clear hI
      go_wp2
      go_end0
      exact ⟨rfl, hE.out, hN⟩
end Go.Proofs.Ytbikpagoeeelbaa
