/- The contract of the program's IsDiagram. -/
import Derived.Test.YtdmgmhjclagnpaaText
import Derived.Test.YtdmgmhjclagnpaaEq
namespace Go.Proofs.Ytdmgmhjclagnpaa
open Go.RowKit
set_option maxRecDepth 100000 in
set_option maxHeartbeats 400000 in
theorem isI_some (n : Int) (ms : List Int) (hms : ms.length = 16) (hb : Bytes ms) (w : World) (h1 : 1 ≤ n) (h8 : n ≤ 8) (n' : Int) (ms' : List Int) (hp : parse (textS n ms).data.toList = some (n', ms')) :
    Calls Try.prog 57 #[.agg (dcells n ms)] w fun e w' => e = .returned (.bool (decide (n' = n ∧ ms' = ms))) ∧ Below w.heap.size w w' := by
  have hl := Lib.hid hms
  have hl' := Lib.hid (parse_len _ _ _ hp)
  have hbb := Lib.hid hb
  have c0 := dcells_zero n ms
  have hm : (textS n ms).size ≤ maxLen := by
    unfold textS; rw [strOfNums_size, letL_len]; unfold maxLen; omega
  have hc := Lib.hid (fun w => (dot_any (textS n ms) w hm).mono fun e w' (hd : DotPost _ w e w') => show e = .returned (.tuple #[.agg (dcells n' ms'), .bool true]) ∧ Below w.heap.size w w' from ⟨by rw [hd.1, hp]; rfl, hd.2⟩)
  have c0' := dcells_zero n' ms'
  have hE := eqMates n' n ms' ms hl'.out hl.out
  clear hms hb hp hm
  go_enter Try.func57, Try.ntmps57
  go_wp2_with (first
    | (go_at_call 68; ((with_reducible refine (isSize_t _ _ (by omega) (by omega)).mono ?_); rintro e w0 ⟨rfl, rfl⟩))
    | (go_at_call 78; ((with_reducible refine (textI_any n ms hl.out hbb.out _ h1 h8).mono ?_); rintro e w1 ⟨rfl, hB1⟩))
    | (go_at_call 77; ((with_reducible refine (hc.out _).mono ?_); rintro e w2 ⟨rfl, hB2⟩))
    | (refine wpList_load_row rfl 53 _ rfl _ rfl 53 _ (0, 0) _ (Own.new _ _ _) Try.underlying53 rfl (row26 (d17 _ _ (hl.out))) ?_)
    | (refine wpList_store_own rfl 53 _ _ rfl _ _ rfl rfl 53 _ (Own.new w2 _ _) (row26 (d17 _ _ (hl'.out))) (z_eq (d17 _ _ hl'.out)) (dcells_one _ _) ?_; intro w3 hO3 hN3)
    | (refine wpList_load_row_if rfl 53 (.tmp 3) rfl _ rfl 53 _ _ hO3 Try.underlying53 rfl (row26 (d17 _ _ hl'.out)) ?_)
    | (refine wpList_load_row_if rfl 53 (.tmp 1) rfl _ rfl 53 _ _ ((((Own.new _ _ _).below hB1 (by simp)).below hB2 (Nat.lt_of_lt_of_le (by simp) hB1.size) |>.alloc _).only hN3 (Nat.ne_of_lt (Nat.lt_of_lt_of_le (Nat.lt_of_lt_of_le (by simp) hB1.size) hB2.size))) Try.underlying53 rfl (row26 (d17 _ _ hl.out)) ?_))
  all_goals
    go_ret
    have b0 : Below w.heap.size w (w.alloc (.cells (dcells n ms) 53)) := (Below.refl _ _).alloc (Nat.le_refl _) _
    have b1 : Below w.heap.size w w1 := b0.trans (hB1.mono b0.size)
    have b2 : Below w.heap.size w w2 := b1.trans (hB2.mono b1.size)
    have b3 : Below w.heap.size w w3 := (b2.alloc b2.size _).trans (hN3.below.mono b2.size)
    refine ⟨?_, b3⟩
    clear hB1 hB2 hN3 hO3 hc hE b0 b1 b2 b3
    simp_all
set_option maxRecDepth 100000 in
set_option maxHeartbeats 400000 in
theorem isI_none (n : Int) (ms : List Int) (hms : ms.length = 16) (hb : Bytes ms) (w : World) (h1 : 1 ≤ n) (h8 : n ≤ 8) (hp : parse (textS n ms).data.toList = none) :
    Calls Try.prog 57 #[.agg (dcells n ms)] w fun e w' => e = .returned (.bool false) ∧ Below w.heap.size w w' := by
  have hl := Lib.hid hms
  have hbb := Lib.hid hb
  have c0 := dcells_zero n ms
  have hm : (textS n ms).size ≤ maxLen := by
    unfold textS; rw [strOfNums_size, letL_len]; unfold maxLen; omega
  have hc := Lib.hid (fun w => (dot_any (textS n ms) w hm).mono fun e w' (hd : DotPost _ w e w') => show e = .returned (.tuple #[.agg zcells, .bool false]) ∧ Below w.heap.size w w' from ⟨by rw [hd.1, hp]; rfl, hd.2⟩)
  clear hms hb hp hm
  go_enter Try.func57, Try.ntmps57
  go_wp2_with (first
    | (go_at_call 68; ((with_reducible refine (isSize_t _ _ (by omega) (by omega)).mono ?_); rintro e w0 ⟨rfl, rfl⟩))
    | (go_at_call 78; ((with_reducible refine (textI_any n ms hl.out hbb.out _ h1 h8).mono ?_); rintro e w1 ⟨rfl, hB1⟩))
    | (go_at_call 77; ((with_reducible refine (hc.out _).mono ?_); rintro e w2 ⟨rfl, hB2⟩))
    | (refine wpList_load_row rfl 53 _ rfl _ rfl 53 _ (0, 0) _ (Own.new _ _ _) Try.underlying53 rfl (row26 (d17 _ _ (hl.out))) ?_)
    | (refine wpList_store_own rfl 53 _ _ rfl _ _ rfl rfl 53 _ (Own.new w2 _ _) (row26 (d17 _ _ (zlen))) (rfl) (dcells_one _ _) ?_; intro w3 hO3 hN3))
  go_ret
  have b0 : Below w.heap.size w (w.alloc (.cells (dcells n ms) 53)) := (Below.refl _ _).alloc (Nat.le_refl _) _
  have b1 : Below w.heap.size w w1 := b0.trans (hB1.mono b0.size)
  have b2 : Below w.heap.size w w2 := b1.trans (hB2.mono b1.size)
  exact ⟨rfl, (b2.alloc b2.size _).trans (hN3.below.mono b2.size)⟩
set_option maxRecDepth 100000 in
theorem isI_size (n : Int) (ms : List Int) (hms : ms.length = 16) (w : World) (h : n < 1 ∨ 8 < n) :
    Calls Try.prog 57 #[.agg (dcells n ms)] w fun e w' => e = .returned (.bool false) ∧ Below w.heap.size w w' := by
  have hl := Lib.hid hms
  have c0 := dcells_zero n ms
  have hh := Lib.hid h
  clear hms h
  go_enter Try.func57, Try.ntmps57
  go_wp2_with (first
    | (go_at_call 68; ((with_reducible refine (isSize_f _ _ hh.out).mono ?_); rintro e w0 ⟨rfl, rfl⟩)))
  go_ret
  exact ⟨rfl, (Below.refl _ _).alloc (Nat.le_refl _) _⟩
/-- Whether a size and mates are a diagram, as the program asks it. -/
def isD (n : Int) (ms : List Int) : Bool := decide (1 ≤ n ∧ n ≤ 8) && decide (parse (textS n ms).data.toList = some (n, ms))
theorem isI_any (n : Int) (ms : List Int) (hms : ms.length = 16) (hb : Bytes ms) (w : World) :
    Calls Try.prog 57 #[.agg (dcells n ms)] w fun e w' => e = .returned (.bool (isD n ms)) ∧ Below w.heap.size w w' := by
  by_cases h : 1 ≤ n ∧ n ≤ 8
  · cases hp : parse (textS n ms).data.toList with
    | none =>
      have e : isD n ms = false := by unfold isD; rw [hp]; simp
      rw [e]; exact isI_none n ms hms hb w h.1 h.2 hp
    | some q =>
      obtain ⟨n', ms'⟩ := q
      have e : isD n ms = decide (n' = n ∧ ms' = ms) := by unfold isD; rw [hp]; simp [h]
      rw [e]; exact isI_some n ms hms hb w h.1 h.2 n' ms' hp
  · have e : isD n ms = false := by unfold isD; simp [h]
    rw [e]; exact isI_size n ms hms w (by omega)
end Go.Proofs.Ytdmgmhjclagnpaa
