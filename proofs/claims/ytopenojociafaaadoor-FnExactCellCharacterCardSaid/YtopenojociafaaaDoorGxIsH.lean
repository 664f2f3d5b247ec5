/- The contracts of the program's and of the model's test for half diagrams. -/
import Derived.Test.YtopenojociafaaaDoorTexts
import Derived.Test.YtopenojociafaaaDoorToh
import Derived.Test.YtopenojociafaaaDoorGxArcs
import Derived.Test.YtopenojociafaaaDoorHalfI
import Derived.Test.YtopenojociafaaaDoorEq
namespace Go.Proofs.YtopenojociafaaaDoor
open Go.RowKit
theorem joinL_bytes {ms : List Int} (h : Bytes ms) (a b : Int) (ha : 0 ≤ a ∧ a ≤ 255) (hb : 0 ≤ b ∧ b ≤ 255) : Bytes (joinL ms a b) := by
  intro x hx
  unfold joinL at hx
  rcases List.mem_or_eq_of_mem_set hx with hx | rfl
  · rcases List.mem_or_eq_of_mem_set hx with hx | rfl
    · exact h x hx
    · exact hb
  · exact ha
theorem zeros_bytes : Bytes zeros := by
  intro x hx
  simp [zeros] at hx
  omega
theorem pst_bytes (n : Int) (l : List UInt8) (h8 : n ≤ 8) (k : Nat) (hk : (k : Int) ≤ 2 * n) (ms o : List Int) (h : pst n l k = some (ms, o)) : Bytes ms := by
  induction k generalizing ms o with
  | zero => simp [pst] at h; obtain ⟨rfl, rfl⟩ := h; exact zeros_bytes
  | succ k ih =>
    unfold pst at h
    cases hp : pst n l k with
    | none => rw [hp] at h; simp at h
    | some q =>
      obtain ⟨ms', o'⟩ := q
      have hi := ih (by omega) ms' o' hp
      have ho := (pst_len _ _ _ _ _ hp).2.2
      rw [hp] at h
      simp only at h
      split at h
      · simp at h; obtain ⟨rfl, rfl⟩ := h; exact hi
      · split at h
        · cases hl : o'.getLast? with
          | none => rw [hl] at h; simp at h
          | some y =>
            rw [hl] at h; simp at h; obtain ⟨rfl, rfl⟩ := h
            have hy := ho y (List.mem_of_getLast? hl)
            have p1 := pl_bd n y h8 hy.1 (by omega)
            have p2 := pl_bd n k h8 (by omega) (by omega)
            exact joinL_bytes hi _ _ (by omega) (by omega)
        · simp at h
theorem parse_bytes (l : List UInt8) (n : Int) (ms : List Int) (h : parse l = some (n, ms)) : Bytes ms ∧ 1 ≤ n ∧ n ≤ 8 := by
  unfold parse at h
  split at h
  · rename_i hc
    split at h
    · rename_i hp; simp at h; obtain ⟨rfl, rfl⟩ := h
      exact ⟨pst_bytes _ _ hc.2.2 _ (by omega) _ _ hp, hc.2⟩
    · simp at h
  · simp at h
theorem str_LI (xs : List Int) (hx : ∀ x ∈ xs, 0 ≤ x ∧ x ≤ 255) (a : ByteArray) : strOfNums xs = a ↔ xs = LI a.data.toList := by
  constructor
  · rintro rfl
    unfold strOfNums LI
    simp only [List.map_map]
    conv => lhs; rw [← List.map_id xs]
    apply List.map_congr_left
    intro x h
    have := hx x h
    simp only [id_eq, Function.comp]
    rw [UInt8.toNat_ofNat']
    omega
  · intro h
    rw [h, LI_str]
theorem hch_bd (n f m : Int) (k : Nat) : 0 ≤ hch n f m k ∧ hch n f m k ≤ 255 := by
  unfold hch; split
  · omega
  · split <;> omega
theorem hfL_bd (n f : Int) (ms : List Int) (k : Nat) : ∀ x ∈ hfL n f ms k, 0 ≤ x ∧ x ≤ 255 := by
  induction k with
  | zero => intro x hx; simp [hfL] at hx
  | succ k ih =>
    intro x hx
    rw [hfL, List.mem_append] at hx
    rcases hx with hx | hx
    · exact ih x hx
    · simp at hx; subst hx; exact hch_bd _ _ _ _
set_option maxRecDepth 100000 in
theorem l04Is_any (a : ByteArray) (w : World) (ha : a.size ≤ 1048576) :
    Calls Tryd.prog 66 #[.string a] w fun e w' => e = .returned (.bool (arcO a.data.toList).isSome) ∧ Below w.heap.size w w' := by
  have hc := Lib.hid (arcs_any a w ha)
  go_enter Tryd.func66, Tryd.ntmps66
  go_wp2_with (first
    | (go_at_call 68; ((with_reducible refine (hc.out).mono ?_); rintro e w1 ⟨o, b, hl, rfl, hy, hn, hB1⟩))
    | (refine wpList_store_own rfl 81 _ _ rfl _ _ rfl rfl 81 _ (Own.new w1 _ _) (row8i (i8s _ (hl))) (i88 z8l hl) (one8i _) ?_; intro w3 hO3 hN3))
  go_ret
  refine ⟨?_, (hB1.alloc hB1.size _).trans (hN3.below.mono hB1.size)⟩
  cases b with
  | true => rw [hy rfl]; rfl
  | false => rw [hn rfl]; rfl
end Go.Proofs.YtopenojociafaaaDoor
