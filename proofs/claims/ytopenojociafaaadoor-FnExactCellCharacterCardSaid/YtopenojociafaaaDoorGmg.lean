/- The half diagrams of up to seven points, and the diagrams of their pairs. The half diagrams of eight points. The diagrams of pairs of half diagrams of eight points. The diagrams of pairs of half diagrams of eight points. Plain mathematics: for the program and the model the diagram of two half diagrams is the same. -/
import Derived.Test.YtopenojociafaaaDoorHv
namespace Go.Proofs.YtopenojociafaaaDoor
set_option maxRecDepth 1000000
theorem in_1 : ((texts 1).all (inL H1)) = true := by decide +kernel
theorem in_2 : ((texts 2).all (inL H2)) = true := by decide +kernel
theorem in_3 : ((texts 3).all (inL H3)) = true := by decide +kernel
theorem in_4 : ((texts 4).all (inL H4)) = true := by decide +kernel
theorem in_5 : ((texts 5).all (inL H5)) = true := by decide +kernel
theorem in_6 : ((texts 6).all (inL H6)) = true := by decide +kernel
theorem in_7 : ((texts 7).all (inL H7)) = true := by decide +kernel
theorem okd_1 : okDs H1 H1 = true := by decide +kernel
theorem okd_2 : okDs H2 H2 = true := by decide +kernel
theorem okd_3 : okDs H3 H3 = true := by decide +kernel
theorem okd_4 : okDs H4 H4 = true := by decide +kernel
theorem okd_5 : okDs H5 H5 = true := by decide +kernel
theorem okd_6 : okDs H6 H6 = true := by decide +kernel
theorem okd_7 : okDs H7 H7 = true := by decide +kernel
end Go.Proofs.YtopenojociafaaaDoor
namespace Go.Proofs.YtopenojociafaaaDoor
set_option maxRecDepth 1000000
theorem in8_40 : ((texts 7).all fun t => inL H8 (40 :: t)) = true := by decide +kernel
theorem in8_41 : ((texts 7).all fun t => inL H8 (41 :: t)) = true := by decide +kernel
theorem in8_124 : ((texts 7).all fun t => inL H8 (124 :: t)) = true := by decide +kernel
end Go.Proofs.YtopenojociafaaaDoor
namespace Go.Proofs.YtopenojociafaaaDoor
set_option maxRecDepth 1000000
theorem okd8_0 : okDs H8p0 H8 = true := by decide +kernel
theorem okd8_1 : okDs H8p1 H8 = true := by decide +kernel
theorem okd8_2 : okDs H8p2 H8 = true := by decide +kernel
end Go.Proofs.YtopenojociafaaaDoor
namespace Go.Proofs.YtopenojociafaaaDoor
set_option maxRecDepth 1000000
theorem okd8_3 : okDs H8p3 H8 = true := by decide +kernel
theorem okd8_4 : okDs H8p4 H8 = true := by decide +kernel
end Go.Proofs.YtopenojociafaaaDoor
namespace Go.Proofs.YtopenojociafaaaDoor
open Go.RowKit
def HH (n : Nat) : List (List UInt8) := if n = 1 then H1 else if n = 2 then H2 else if n = 3 then H3 else if n = 4 then H4 else if n = 5 then H5 else if n = 6 then H6 else if n = 7 then H7 else H8
theorem arc_letters {l : List UInt8} {o : List Int} (h : arcO l = some o) : ∀ c ∈ l, Letter c := by
  apply Classical.byContradiction
  intro hn
  obtain ⟨k, c, hk, hc⟩ := other_at l hn
  rw [arc_other hk hc] at h; cases h
theorem mem_of_inL {L : List (List UInt8)} {l : List UInt8} {o : List Int} (h : arcO l = some o) (hi : inL L l = true) : l ∈ L := by
  unfold inL at hi
  rw [h] at hi
  simpa using hi
theorem mem_HH {l : List UInt8} {o : List Int} (h : arcO l = some o) : l ∈ HH l.length := by
  obtain ⟨_, h1, h8⟩ := arc_O8 h
  have hl := arc_letters h
  have hm := mem_texts l hl
  have hc : l.length = 1 ∨ l.length = 2 ∨ l.length = 3 ∨ l.length = 4 ∨ l.length = 5 ∨ l.length = 6 ∨ l.length = 7 ∨ l.length = 8 := by omega
  rcases hc with e | e | e | e | e | e | e | e
  · rw [e] at hm ⊢; exact mem_of_inL h (List.all_eq_true.1 in_1 l hm)
  · rw [e] at hm ⊢; exact mem_of_inL h (List.all_eq_true.1 in_2 l hm)
  · rw [e] at hm ⊢; exact mem_of_inL h (List.all_eq_true.1 in_3 l hm)
  · rw [e] at hm ⊢; exact mem_of_inL h (List.all_eq_true.1 in_4 l hm)
  · rw [e] at hm ⊢; exact mem_of_inL h (List.all_eq_true.1 in_5 l hm)
  · rw [e] at hm ⊢; exact mem_of_inL h (List.all_eq_true.1 in_6 l hm)
  · rw [e] at hm ⊢; exact mem_of_inL h (List.all_eq_true.1 in_7 l hm)
  · rw [e]
    show l ∈ H8
    match l, e, hl, h with
    | b :: l, e, hl, h =>
      have hq := mem_texts l (fun c hc => hl c (by simp [hc]))
      rw [show l.length = 7 by simpa using e] at hq
      rcases hl b (by simp) with rfl | rfl | rfl
      · exact mem_of_inL h (List.all_eq_true.1 in8_40 l hq)
      · exact mem_of_inL h (List.all_eq_true.1 in8_41 l hq)
      · exact mem_of_inL h (List.all_eq_true.1 in8_124 l hq)
theorem okDs_app {L M N : List (List UInt8)} (h : okDs L N = true) (h' : okDs M N = true) : okDs (L ++ M) N = true := by
  unfold okDs at *
  rw [List.all_append, h, h']; rfl
theorem okD_HH (n : Nat) (h1 : 1 ≤ n) (h8 : n ≤ 8) : okDs (HH n) (HH n) = true := by
  have hc : n = 1 ∨ n = 2 ∨ n = 3 ∨ n = 4 ∨ n = 5 ∨ n = 6 ∨ n = 7 ∨ n = 8 := by omega
  rcases hc with rfl | rfl | rfl | rfl | rfl | rfl | rfl | rfl
  · exact okd_1
  · exact okd_2
  · exact okd_3
  · exact okd_4
  · exact okd_5
  · exact okd_6
  · exact okd_7
  · exact okDs_app (okDs_app (okDs_app (okDs_app okd8_0 okd8_1) okd8_2) okd8_3) okd8_4
theorem okD_all {a b : List UInt8} {o1 o2 : List Int} (h1 : arcO a = some o1) (h2 : arcO b = some o2) (hl : a.length = b.length) (hc : a.count 124 = b.count 124) :
    (dm1 a.length o1 o2 a.length).2.1.length = (dm1 a.length o1 o2 a.length).2.2.length ∧ parse (tohL a b) = some ((a.length : Int), dmS a.length o1 o2) := by
  obtain ⟨_, n1, n8⟩ := arc_O8 h1
  have ma := mem_HH h1
  have mb := mem_HH h2
  rw [← hl] at mb
  have hk : okD a b = true := List.all_eq_true.1 (List.all_eq_true.1 (okD_HH a.length n1 n8) a ma) b mb
  unfold okD at hk
  rw [h1, h2] at hk
  simp only [hc, bne_self_eq_false, Bool.false_or, Bool.and_eq_true, decide_eq_true_eq] at hk
  exact hk
end Go.Proofs.YtopenojociafaaaDoor
