/- The law of IsHalf. -/
import Derived.Test.YtonlbelcpdfjhaaDoorIsH
import Derived.Test.YtonlbelcpdfjhaaDoorOkA
import Derived.Test.YtonlbelcpdfjhaaDoorOkB40
import Derived.Test.YtonlbelcpdfjhaaDoorOkB41
import Derived.Test.YtonlbelcpdfjhaaDoorOkB124
namespace Go.Proofs.YtonlbelcpdfjhaaDoor
open Go.RowKit
theorem ok_of {l : List UInt8} (h : okE l = true) : ihB l = (arcO l).isSome := by
  unfold okE at h; exact beq_iff_eq.1 h
theorem ihB_eq (l : List UInt8) : ihB l = (arcO l).isSome := by
  by_cases hs : l.length < 1 ∨ 8 < l.length
  · exact okE_size l hs
  · by_cases hl : ∀ c ∈ l, Letter c
    · have hm := mem_texts l hl
      have h8 : l.length = 1 ∨ l.length = 2 ∨ l.length = 3 ∨ l.length = 4 ∨ l.length = 5 ∨ l.length = 6 ∨ l.length = 7 ∨ l.length = 8 := by omega
      rcases h8 with e | e | e | e | e | e | e | e
      · rw [e] at hm; exact ok_of (List.all_eq_true.1 ok_1 l hm)
      · rw [e] at hm; exact ok_of (List.all_eq_true.1 ok_2 l hm)
      · rw [e] at hm; exact ok_of (List.all_eq_true.1 ok_3 l hm)
      · rw [e] at hm; exact ok_of (List.all_eq_true.1 ok_4 l hm)
      · rw [e] at hm; exact ok_of (List.all_eq_true.1 ok_5 l hm)
      · rw [e] at hm; exact ok_of (List.all_eq_true.1 ok_6 l hm)
      · match l, e, hl with
        | b :: l, e, hl =>
          have hq := mem_texts l (fun c hc => hl c (by simp [hc]))
          rw [show l.length = 6 by simpa using e] at hq
          rcases hl b (by simp) with rfl | rfl | rfl
          · exact ok_of (List.all_eq_true.1 ok7_40 l hq)
          · exact ok_of (List.all_eq_true.1 ok7_41 l hq)
          · exact ok_of (List.all_eq_true.1 ok7_124 l hq)
      · match l, e, hl with
        | b :: d :: l, e, hl =>
          have hq := mem_texts l (fun c hc => hl c (by simp [hc]))
          rw [show l.length = 6 by simpa using e] at hq
          rcases hl b (by simp) with rfl | rfl | rfl <;> rcases hl d (by simp) with rfl | rfl | rfl
          · exact ok_of (List.all_eq_true.1 ok8_40_40 l hq)
          · exact ok_of (List.all_eq_true.1 ok8_40_41 l hq)
          · exact ok_of (List.all_eq_true.1 ok8_40_124 l hq)
          · exact ok_of (List.all_eq_true.1 ok8_41_40 l hq)
          · exact ok_of (List.all_eq_true.1 ok8_41_41 l hq)
          · exact ok_of (List.all_eq_true.1 ok8_41_124 l hq)
          · exact ok_of (List.all_eq_true.1 ok8_124_40 l hq)
          · exact ok_of (List.all_eq_true.1 ok8_124_41 l hq)
          · exact ok_of (List.all_eq_true.1 ok8_124_124 l hq)
    · obtain ⟨k, c, hk, hc⟩ := other_at l hl
      rw [arc_other hk hc, ihB_none (parse_other rfl hk hc)]; rfl
/-- Whether a text is a half diagram. -/
def isHf (l : List UInt8) : Bool := (arcO l).isSome
theorem isHalfI_is (a : ByteArray) (m : Int) (w : World) (hm : Ml w m) (ha : a.size ≤ 1048576) :
    Calls Tryd.prog 12 #[.string a] w fun e w' => e = .returned (.bool (isHf a.data.toList)) ∧ Below w.heap.size w w' := by
  have h := isHalfI_any a m w hm ha
  rw [ihB_eq] at h
  exact h
set_option maxRecDepth 100000 in
theorem isHalf_law (a : ByteArray) (m : Int) (w : World) (hm : Ml w m) (hz : a.size ≤ maxLen) :
    Calls Tryd.prog 5 #[.string a] w fun e w' => e = .returned (.bool true) ∧ Below w.heap.size w w' := by
  unfold maxLen at hz
  by_cases h : (1048576 : Int) < (a.size : Int)
  · go_enter Tryd.func5, Tryd.ntmps5
    go_wp2
    go_ret
    exact ⟨rfl, Below.refl _ _⟩
  · have ha : a.size ≤ 1048576 := by omega
    have hS := Lib.hid (isHalfS_any a w ha)
    have hI := Lib.hid (fun w' (hb : Below w.heap.size w w') => isHalfI_is a m w' (hm.below hb hm.lt) ha)
    obtain ⟨v, hv⟩ : ∃ v, isHf a.data.toList = v := ⟨_, rfl⟩
    have hv' : (arcO a.data.toList).isSome = v := hv
    rw [hv] at hI
    rw [hv'] at hS
    clear hv hv' hm
    go_enter Tryd.func5, Tryd.ntmps5
    go_wp2_with (first
      | (go_at_call 13; ((with_reducible refine (hS.out).mono ?_); rintro e w1 ⟨rfl, hB1⟩))
      | (go_at_call 12; ((with_reducible refine (hI.out _ hB1).mono ?_); rintro e w2 ⟨rfl, hB2⟩)))
    all_goals
      go_ret
      first
        | exact ⟨rfl, hB1.trans (hB2.mono hB1.size)⟩
        | simp_all
end Go.Proofs.YtonlbelcpdfjhaaDoor
