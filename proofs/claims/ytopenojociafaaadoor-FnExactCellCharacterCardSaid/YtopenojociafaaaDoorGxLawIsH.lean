/- The law of IsHalf. -/
import Derived.Test.YtopenojociafaaaDoorGxIsH
import Derived.Test.YtopenojociafaaaDoorOkA
import Derived.Test.YtopenojociafaaaDoorOkB40
import Derived.Test.YtopenojociafaaaDoorOkB41
import Derived.Test.YtopenojociafaaaDoorOkB124
namespace Go.Proofs.YtopenojociafaaaDoor
open Go.RowKit
theorem ok_of {l : List UInt8} (h : okE l = true) : ihB l = (arcO l).isSome := by
  unfold okE at h; exact beq_iff_eq.1 h
theorem ihB_eq (l : List UInt8) : ihB l = (arcO l).isSome := by
  by_cases hs : l.length < 1 ∨ 8 < l.length
  · exact okE_size l hs
  · by_cases hl : ∀ c ∈ l, Letter c
    · have hm := mem_texts l hl
      have h8 : l.length = 1 ∨ l.length = 2 ∨ l.length = 3 ∨ l.length = 4 ∨ l.length = 5 ∨ l.length = 6 ∨ l.length = 7 ∨ l.length = 8 := by omega
      rcases h8 with e | e | e | e | e | e | e | e
      · rw [e] at hm; exact ok_of (List.all_eq_true.1 ok_1 l hm)
      · rw [e] at hm; exact ok_of (List.all_eq_true.1 ok_2 l hm)
      · rw [e] at hm; exact ok_of (List.all_eq_true.1 ok_3 l hm)
      · rw [e] at hm; exact ok_of (List.all_eq_true.1 ok_4 l hm)
      · rw [e] at hm; exact ok_of (List.all_eq_true.1 ok_5 l hm)
      · rw [e] at hm; exact ok_of (List.all_eq_true.1 ok_6 l hm)
      · match l, e, hl with
        | b :: l, e, hl =>
          have hq := mem_texts l (fun c hc => hl c (by simp [hc]))
          rw [show l.length = 6 by simpa using e] at hq
          rcases hl b (by simp) with rfl | rfl | rfl
          · exact ok_of (List.all_eq_true.1 ok7_40 l hq)
          · exact ok_of (List.all_eq_true.1 ok7_41 l hq)
          · exact ok_of (List.all_eq_true.1 ok7_124 l hq)
      · match l, e, hl with
        | b :: d :: l, e, hl =>
          have hq := mem_texts l (fun c hc => hl c (by simp [hc]))
          rw [show l.length = 6 by simpa using e] at hq
          rcases hl b (by simp) with rfl | rfl | rfl <;> rcases hl d (by simp) with rfl | rfl | rfl
          · exact ok_of (List.all_eq_true.1 ok8_40_40 l hq)
          · exact ok_of (List.all_eq_true.1 ok8_40_41 l hq)
          · exact ok_of (List.all_eq_true.1 ok8_40_124 l hq)
          · exact ok_of (List.all_eq_true.1 ok8_41_40 l hq)
          · exact ok_of (List.all_eq_true.1 ok8_41_41 l hq)
          · exact ok_of (List.all_eq_true.1 ok8_41_124 l hq)
          · exact ok_of (List.all_eq_true.1 ok8_124_40 l hq)
          · exact ok_of (List.all_eq_true.1 ok8_124_41 l hq)
          · exact ok_of (List.all_eq_true.1 ok8_124_124 l hq)
    · obtain ⟨k, c, hk, hc⟩ := other_at l hl
      rw [arc_other hk hc, ihB_none (parse_other rfl hk hc)]; rfl
/-- Whether a text is a half diagram. -/
def isHf (l : List UInt8) : Bool := (arcO l).isSome
end Go.Proofs.YtopenojociafaaaDoor
