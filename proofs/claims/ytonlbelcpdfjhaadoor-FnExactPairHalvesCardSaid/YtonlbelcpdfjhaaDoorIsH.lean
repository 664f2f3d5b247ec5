/- The contracts of the program's and of the model's test for half diagrams. -/
import Derived.Test.YtonlbelcpdfjhaaDoorTexts
import Derived.Test.YtonlbelcpdfjhaaDoorToh
import Derived.Test.YtonlbelcpdfjhaaDoorArcs
import Derived.Test.YtonlbelcpdfjhaaDoorHalfI
import Derived.Test.YtonlbelcpdfjhaaDoorEq
namespace Go.Proofs.YtonlbelcpdfjhaaDoor
open Go.RowKit
theorem joinL_bytes {ms : List Int} (h : Bytes ms) (a b : Int) (ha : 0 ≤ a ∧ a ≤ 255) (hb : 0 ≤ b ∧ b ≤ 255) : Bytes (joinL ms a b) := by
  intro x hx
  unfold joinL at hx
  rcases List.mem_or_eq_of_mem_set hx with hx | rfl
  · rcases List.mem_or_eq_of_mem_set hx with hx | rfl
    · exact h x hx
    · exact hb
  · exact ha
theorem zeros_bytes : Bytes zeros := by
  intro x hx
  simp [zeros] at hx
  omega
theorem pst_bytes (n : Int) (l : List UInt8) (h8 : n ≤ 8) (k : Nat) (hk : (k : Int) ≤ 2 * n) (ms o : List Int) (h : pst n l k = some (ms, o)) : Bytes ms := by
  induction k generalizing ms o with
  | zero => simp [pst] at h; obtain ⟨rfl, rfl⟩ := h; exact zeros_bytes
  | succ k ih =>
    unfold pst at h
    cases hp : pst n l k with
    | none => rw [hp] at h; simp at h
    | some q =>
      obtain ⟨ms', o'⟩ := q
      have hi := ih (by omega) ms' o' hp
      have ho := (pst_len _ _ _ _ _ hp).2.2
      rw [hp] at h
      simp only at h
      split at h
      · simp at h; obtain ⟨rfl, rfl⟩ := h; exact hi
      · split at h
        · cases hl : o'.getLast? with
          | none => rw [hl] at h; simp at h
          | some y =>
            rw [hl] at h; simp at h; obtain ⟨rfl, rfl⟩ := h
            have hy := ho y (List.mem_of_getLast? hl)
            have p1 := pl_bd n y h8 hy.1 (by omega)
            have p2 := pl_bd n k h8 (by omega) (by omega)
            exact joinL_bytes hi _ _ (by omega) (by omega)
        · simp at h
theorem parse_bytes (l : List UInt8) (n : Int) (ms : List Int) (h : parse l = some (n, ms)) : Bytes ms ∧ 1 ≤ n ∧ n ≤ 8 := by
  unfold parse at h
  split at h
  · rename_i hc
    split at h
    · rename_i hp; simp at h; obtain ⟨rfl, rfl⟩ := h
      exact ⟨pst_bytes _ _ hc.2.2 _ (by omega) _ _ hp, hc.2⟩
    · simp at h
  · simp at h
theorem str_LI (xs : List Int) (hx : ∀ x ∈ xs, 0 ≤ x ∧ x ≤ 255) (a : ByteArray) : strOfNums xs = a ↔ xs = LI a.data.toList := by
  constructor
  · rintro rfl
    unfold strOfNums LI
    simp only [List.map_map]
    conv => lhs; rw [← List.map_id xs]
    apply List.map_congr_left
    intro x h
    have := hx x h
    simp only [id_eq, Function.comp]
    rw [UInt8.toNat_ofNat']
    omega
  · intro h
    rw [h, LI_str]
theorem hch_bd (n f m : Int) (k : Nat) : 0 ≤ hch n f m k ∧ hch n f m k ≤ 255 := by
  unfold hch; split
  · omega
  · split <;> omega
theorem hfL_bd (n f : Int) (ms : List Int) (k : Nat) : ∀ x ∈ hfL n f ms k, 0 ≤ x ∧ x ≤ 255 := by
  induction k with
  | zero => intro x hx; simp [hfL] at hx
  | succ k ih =>
    intro x hx
    rw [hfL, List.mem_append] at hx
    rcases hx with hx | hx
    · exact ih x hx
    · simp at hx; subst hx; exact hch_bd _ _ _ _
set_option maxRecDepth 100000 in
theorem isHalfI_none (a : ByteArray) (m : Int) (w : World) (hm : Ml w m) (ha : a.size ≤ 1048576) (hp : parse (tohL a.data.toList a.data.toList) = none) :
    Calls Tryd.prog 12 #[.string a] w fun e w' => e = .returned (.bool false) ∧ Below w.heap.size w w' := by
  have ht := Lib.hid (tohI_any a a m w hm ha ha)
  obtain ⟨T, hT⟩ : ∃ T : ByteArray, (⟨(tohL a.data.toList a.data.toList).toArray⟩ : ByteArray) = T := ⟨_, rfl⟩
  have hTs : T.size ≤ maxLen := by
    rw [← hT]
    show (tohL a.data.toList a.data.toList).toArray.size ≤ maxLen
    rw [List.size_toArray, toh_len, Array.length_toList]
    have : a.data.size = a.size := rfl
    unfold maxLen; omega
  have hTp : parse T.data.toList = none := by rw [← hT]; exact hp
  rw [hT] at ht
  have hc := Lib.hid (fun w => (dot_any T w hTs).mono fun e w' (hd : DotPost _ w e w') => show e = .returned (.tuple #[.agg zcells, .bool false]) ∧ Below w.heap.size w w' from ⟨by rw [hd.1, hTp]; rfl, hd.2⟩)
  clear hp hTp hT hm
  go_enter Tryd.func12, Tryd.ntmps12
  go_wp2_with (first
    | (go_at_call 59; ((with_reducible refine (ht.out).mono ?_); rintro e w1 ⟨rfl, hB1⟩))
    | (go_at_call 58; ((with_reducible refine (hc.out _).mono ?_); rintro e w2 ⟨rfl, hB2⟩))
    | (refine wpList_store_own rfl 35 _ _ rfl _ _ rfl rfl 35 _ (Own.new w2 _ _) (row26 (d17 _ _ (zlen))) (rfl) (dcells_one _ _) ?_; intro w3 hO3 hN3))
  go_ret
  have b2 : Below w.heap.size w w2 := hB1.trans (hB2.mono hB1.size)
  exact ⟨rfl, (b2.alloc b2.size _).trans (hN3.below.mono b2.size)⟩
set_option maxRecDepth 100000 in
theorem isHalfI_some (a : ByteArray) (m : Int) (w : World) (hm : Ml w m) (ha : a.size ≤ 1048576) (n : Int) (ms : List Int) (hp : parse (tohL a.data.toList a.data.toList) = some (n, ms)) :
    Calls Tryd.prog 12 #[.string a] w fun e w' => e = .returned (.bool (decide (hfL n 0 ms n.toNat = LI a.data.toList))) ∧ Below w.heap.size w w' := by
  have ht := Lib.hid (tohI_any a a m w hm ha ha)
  obtain ⟨T, hT⟩ : ∃ T : ByteArray, (⟨(tohL a.data.toList a.data.toList).toArray⟩ : ByteArray) = T := ⟨_, rfl⟩
  have hTs : T.size ≤ maxLen := by
    rw [← hT]
    show (tohL a.data.toList a.data.toList).toArray.size ≤ maxLen
    rw [List.size_toArray, toh_len, Array.length_toList]
    have : a.data.size = a.size := rfl
    unfold maxLen; omega
  have hTp : parse T.data.toList = some (n, ms) := by rw [← hT]; exact hp
  rw [hT] at ht
  have hl := Lib.hid (parse_len _ _ _ hp)
  obtain ⟨hb, h1, h8⟩ := parse_bytes _ _ _ hp
  have hh := Lib.hid (fun w => halfI_any n 0 ms hl.out hb w h1 h8 (.inl rfl))
  have hE : (halfB n 0 ms).toList == a.toList ↔ hfL n 0 ms n.toNat = LI a.data.toList := by
    rw [← str_LI _ (hfL_bd _ _ _ _) a]
    have := Lib.bytes_beq_false_iff (halfB n 0 ms) a
    cases hq : (halfB n 0 ms).toList == a.toList with
    | false => simp only [Bool.false_eq_true, false_iff]; exact this.1 hq
    | true =>
      simp only [true_iff]
      apply Classical.byContradiction
      intro hne
      have := this.2 hne
      rw [hq] at this; cases this
  obtain ⟨bb, hbb⟩ : ∃ bb : Bool, decide (hfL n 0 ms n.toNat = LI a.data.toList) = bb := ⟨_, rfl⟩
  obtain ⟨H, hH⟩ : ∃ H : ByteArray, halfB n 0 ms = H := ⟨_, rfl⟩
  have hEb : (H.toList == a.toList) = bb := by
    rw [← hH, ← hbb]
    cases hq : (halfB n 0 ms).toList == a.toList with
    | false => rw [hq] at hE; simp at hE; simp [hE]
    | true => rw [hq] at hE; simp at hE; simp [hE]
  rw [hH] at hh
  rw [hbb]
  have hc := Lib.hid (fun w => (dot_any T w hTs).mono fun e w' (hd : DotPost _ w e w') => show e = .returned (.tuple #[.agg (dcells n ms), .bool true]) ∧ Below w.heap.size w w' from ⟨by rw [hd.1, hTp]; rfl, hd.2⟩)
  clear hp hTp hT hm hE hbb hH hb
  go_enter Tryd.func12, Tryd.ntmps12
  go_wp2_with (first
    | (go_at_call 59; ((with_reducible refine (ht.out).mono ?_); rintro e w1 ⟨rfl, hB1⟩))
    | (go_at_call 58; ((with_reducible refine (hc.out _).mono ?_); rintro e w2 ⟨rfl, hB2⟩))
    | (refine wpList_store_own rfl 35 _ _ rfl _ _ rfl rfl 35 _ (Own.new w2 _ _) (row26 (d17 _ _ (hl.out))) (z_eq (d17 _ _ hl.out)) (dcells_one _ _) ?_; intro w3 hO3 hN3)
    | (refine wpList_load_row_if rfl 35 _ rfl _ rfl 35 _ _ (hO3) Tryd.underlying35 rfl (row26 (d17 _ _ (hl.out))) ?_)
    | (go_at_call 60; ((with_reducible refine (hh.out _).mono ?_); rintro e w4 ⟨rfl, hB4⟩)))
  all_goals
    go_ret
    have b2 : Below w.heap.size w w2 := hB1.trans (hB2.mono hB1.size)
    have b3 : Below w.heap.size w w3 := (b2.alloc b2.size _).trans (hN3.below.mono b2.size)
    refine ⟨?_, b3.trans (hB4.mono b3.size)⟩
    simp_all
theorem isHalfI_any (a : ByteArray) (m : Int) (w : World) (hm : Ml w m) (ha : a.size ≤ 1048576) :
    Calls Tryd.prog 12 #[.string a] w fun e w' => e = .returned (.bool (ihB a.data.toList)) ∧ Below w.heap.size w w' := by
  cases hp : parse (tohL a.data.toList a.data.toList) with
  | none => rw [ihB_none hp]; exact isHalfI_none a m w hm ha hp
  | some q =>
    obtain ⟨n, ms⟩ := q
    have e : ihB a.data.toList = decide (hfL n 0 ms n.toNat = LI a.data.toList) := by unfold ihB; rw [hp]
    rw [e]; exact isHalfI_some a m w hm ha n ms hp
set_option maxRecDepth 100000 in
theorem l04Is_any (a : ByteArray) (w : World) (ha : a.size ≤ 1048576) :
    Calls Tryd.prog 61 #[.string a] w fun e w' => e = .returned (.bool (arcO a.data.toList).isSome) ∧ Below w.heap.size w w' := by
  have hc := Lib.hid (arcs_any a w ha)
  go_enter Tryd.func61, Tryd.ntmps61
  go_wp2_with (first
    | (go_at_call 112; ((with_reducible refine (hc.out).mono ?_); rintro e w1 ⟨o, b, hl, rfl, hy, hn, hB1⟩))
    | (refine wpList_store_own rfl 119 _ _ rfl _ _ rfl rfl 119 _ (Own.new w1 _ _) (row8i (i8s _ (hl))) (i88 z8l hl) (one8i _) ?_; intro w3 hO3 hN3))
  go_ret
  refine ⟨?_, (hB1.alloc hB1.size _).trans (hN3.below.mono hB1.size)⟩
  cases b with
  | true => rw [hy rfl]; rfl
  | false => rw [hn rfl]; rfl
theorem isHalfS_any (a : ByteArray) (w : World) (ha : a.size ≤ 1048576) :
    Calls Tryd.prog 13 #[.string a] w fun e w' => e = .returned (.bool (arcO a.data.toList).isSome) ∧ Below w.heap.size w w' := by
  have hc := Lib.hid (l04Is_any a w ha)
  go_enter Tryd.func13, Tryd.ntmps13
  go_wp2_with (first
    | (go_at_call 61; ((with_reducible refine (hc.out).mono ?_); rintro e w1 ⟨rfl, hB1⟩)))
  go_ret
  exact ⟨rfl, hB1⟩
end Go.Proofs.YtonlbelcpdfjhaaDoor
