/- CountHalves: the program's, and the law. -/
import Derived.Test.YthofkmndgedkgaaSea
import Derived.Test.YthofkmndgedkgaaChm
namespace Go.Proofs.Ythofkmndgedkgaa
open Go.RowKit Go.Shelf
attribute [local go_sem] Oper.semAt_some
set_option linter.unusedVariables false
set_option linter.unusedSimpArgs false
theorem wide_room : (Fence.wide).depth = none := rfl
theorem wide_round : (Fence.wide).round = none := rfl
theorem seaI_any (n k : Int) (w : World) : Calls Try.prog 86 #[.int .i64 n, .int .i64 k] w fun e w' =>
    e = .returned (.func (.func 117) #[] #[.pointer (some ⟨w.heap.size, 0, none⟩), .pointer (some ⟨w.heap.size + 1, 0, none⟩)]) ∧ w' = (w.alloc (.cells #[.int .i64 n] 2)).alloc (.cells #[.int .i64 k] 2) := by
  go_enter Try.func86, Try.ntmps86
  go_wp2
  go_ret
  exact ⟨rfl, rfl⟩
set_option maxRecDepth 100000 in
set_option maxHeartbeats 4000000 in
theorem chvI_in (n k : Nat) (h1 : 1 ≤ n) (h8 : n ≤ 8) (hk : k ≤ n) (he : (n - k) % 2 = 0) (w : World) :
    CallsIn Fence.wide 6 Try.prog 34 #[.int .i64 n, .int .i64 k] w fun e w' => e = .returned (.tuple #[.int .i64 (allH n k).length, .int .i64 0]) ∧ Below w.heap.size w w' := by
  have hC := Lib.hid (fun w => cellI_t n k w ⟨⟨by omega, by omega⟩, by omega, by omega, by omega⟩)
  have hS := Lib.hid (fun w => seaI_any n k w)
  have hlen := allH_small n k h1 (by omega) hk he
  refine callsIn_of_wp_marks Try.func34 rfl trivial ?_ rfl
  simp only [Try.ntmps34, List.size_toArray, List.length_cons, List.length_nil, Nat.reduceAdd, Nat.reduceSub, Array.replicate_succ, Array.replicate_zero, List.push_toArray, List.append_toArray, List.nil_append, List.cons_append]
  gi_wp2_with (first
    | ((try refine ⟨trivial, ?_⟩); gi_at_call 84; refine (callsIn_wide.2 (hC.out _)).mono ?_; rintro e w0 ⟨rfl, rfl⟩)
    | ((try refine ⟨trivial, ?_⟩); gi_at_call 86; refine (callsIn_wide.2 (hS.out _)).mono ?_; rintro e w1 ⟨rfl, rfl⟩))
  have hOa : Own (((w.alloc (.cells #[.int .i64 0] 2)).alloc (.cells #[.int .i64 n] 2)).alloc (.cells #[.int .i64 k] 2)) w.heap.size #[.int .i64 0] 2 := ((Own.new w _ _).alloc _).alloc _
  have hOn : Own (((w.alloc (.cells #[.int .i64 0] 2)).alloc (.cells #[.int .i64 n] 2)).alloc (.cells #[.int .i64 k] 2)) (w.heap.size + 1) #[.int .i64 n] 2 := (Own.at _ _ _ (by simp)).alloc _
  have hOk : Own (((w.alloc (.cells #[.int .i64 0] 2)).alloc (.cells #[.int .i64 n] 2)).alloc (.cells #[.int .i64 k] 2)) (w.heap.size + 1 + 1) #[.int .i64 k] 2 := Own.at _ _ _ (by simp)
  have hBa : Below w.heap.size w (((w.alloc (.cells #[.int .i64 0] 2)).alloc (.cells #[.int .i64 n] 2)).alloc (.cells #[.int .i64 k] 2)) := (((Below.refl _ _).alloc (Nat.le_refl _) _).alloc (by simp) _).alloc (by simp; omega) _
  have hsz : (((w.alloc (.cells #[.int .i64 0] 2)).alloc (.cells #[.int .i64 n] 2)).alloc (.cells #[.int .i64 k] 2)).heap.size = w.heap.size + 3 := by simp
  generalize (((w.alloc (.cells #[.int .i64 0] 2)).alloc (.cells #[.int .i64 n] 2)).alloc (.cells #[.int .i64 k] 2)) = wl at *
  refine wpIn_rangeFunc_made wide_round (by omega) (gf := 117) (lb := #[.pointer (some ⟨w.heap.size + 1, 0, none⟩), .pointer (some ⟨w.heap.size + 1 + 1, 0, none⟩)]) rfl trivial (enters_of Try.func117 (by kernel_rfl) rfl)
    (sea_made Fence.wide wide_room trivial trivial wide_round 5 (w.heap.size + 1) (w.heap.size + 1 + 1) n k (by omega) (by omega) wl (by omega) (by omega) (by rw [hOn.cell]; rfl) (by rw [hOk.cell]; rfl)) (Below.refl _ _) (fun _ => rfl)
    w.heap.size (by omega) (fun pre W => Own W w.heap.size #[.int .i64 pre.length] 2 ∧ Below w.heap.size w W) ?hI ⟨hOa, hBa⟩
    (fun x => { tmps := #[.int .i64 n, .int .i64 k, undef, undef, .int .i64 0, .int .i64 0, .pointer (some ⟨w.heap.size, 0, none⟩), .int .i64 n, .int .i64 k, .bool true, .bool false, .int .i64 n, .int .i64 k, .func (.func 117) #[] #[.pointer (some ⟨w.heap.size + 1, 0, none⟩), .pointer (some ⟨w.heap.size + 1 + 1, 0, none⟩)], hval x, undef, undef, undef], defers := [] }) ?assign ?body ?done
  case hI =>
    rintro pre A B row ⟨hO, hB⟩ hg hr
    refine ⟨?_, hB.grown hg hB.size (fun r e => by have := hr r e; omega)⟩
    show B.heap[w.heap.size]? = _
    rw [hg.block _ hO.lt (fun e => by have := hr _ e.symm; omega)]; exact hO
  case assign =>
    intro l x W K hK
    refine wpIn_skip ?_
    have hz : (#[14].zip #[hval x] : Array (Tmp × Value)) = #[(14, hval x)] := by simp [Array.zip, Array.zipWith, Array.zipWithMAux]
    rw [hz]
    change K _ W
    simpa using hK
  case body =>
    rintro l pre x rest W hL ⟨hO, hB⟩ hs
    have hpl : pre.length < 1000 := by
      have := congrArg List.length hL
      simp at this; omega
    have c1 := hO.cell 0
    have f1 := hO.free 0
    have c1' : W.cell? ⟨w.heap.size, 0, none⟩ = some (.int .i64 pre.length) := c1
    have hO2 : Own (W.setCell ⟨w.heap.size, 0, none⟩ (.int .i64 ((pre.length : Int) + 1))) w.heap.size #[.int .i64 ((pre.length : Int) + 1)] 2 := hO.set 0 (.int .i64 ((pre.length : Int) + 1))
    have HO2 := Lib.hid hO2
    clear c1 hO2
    gi_wp2
    refine ⟨⟨(Below.refl _ W).setCell (p := ⟨w.heap.size, 0, none⟩) (Nat.le_refl _) _, by simp, fun j h1 h2 => Below.heap_setCell _ _ _ _ (by show j ≠ w.heap.size; omega)⟩, ?_, hB.setCell (p := ⟨w.heap.size, 0, none⟩) (Nat.le_refl _) _⟩
    have e : ((pre ++ [x]).length : Int) = (pre.length : Int) + 1 := by simp
    rw [e]; exact HO2.out
  case done =>
    rintro D W hD ⟨hO, hB⟩ hbl hK
    have c1 : W.cell? ⟨w.heap.size, 0, none⟩ = some (.int .i64 (allH n k).length) := hO.cell 0
    gi_wp2
    refine ⟨by simp, .inl ⟨_, _, rfl, run_takeDeferred hK, ?_⟩⟩
    exact ⟨_, results_tmp2 rfl _ _ _, rfl, hB.grown (grownBy_putObj' W D _) hB.size (fun r e => by cases e; omega)⟩
theorem chvI_ok (n k : Nat) (h1 : 1 ≤ n) (h8 : n ≤ 8) (hk : k ≤ n) (he : (n - k) % 2 = 0) (w : World) :
    Calls Try.prog 34 #[.int .i64 n, .int .i64 k] w fun e w' => e = .returned (.tuple #[.int .i64 (allH n k).length, .int .i64 0]) ∧ Below w.heap.size w w' :=
  callsIn_wide.1 (chvI_in n k h1 h8 hk he w)
theorem chvI_bad (n k : Int) (h : ¬ CellOk n k 8) (hk : -9223372036854775808 ≤ k ∧ k ≤ 9223372036854775807) (w : World) :
    Calls Try.prog 34 #[.int .i64 n, .int .i64 k] w fun e w' => e = .returned (.tuple #[.int .i64 0, .int .i64 2]) ∧ Below w.heap.size w w' := by
  have hC := Lib.hid (fun w => cellI_f n k w h hk)
  clear h hk
  go_enter Try.func34, Try.ntmps34
  go_wp2_with (first
    | (go_at_call 84; ((with_reducible refine (hC.out _).mono ?_); rintro e w0 ⟨rfl, rfl⟩)))
  go_ret2
  exact ⟨rfl, Below.refl _ _⟩
theorem chvS_bad (n k : Int) (h : ¬ CellOk n k 8) (w : World) :
    Calls Try.prog 33 #[.int .i64 n, .int .i64 k] w fun e w' => e = .returned (.tuple #[.int .i64 0, .int .i64 2]) ∧ Below w.heap.size w w' := by
  have hC := Lib.hid (fun w => rangeS_f n k 8 w h (by omega))
  clear h
  go_enter Try.func33, Try.ntmps33
  go_wp2_with (first
    | (go_at_call 82; ((with_reducible refine (hC.out _).mono ?_); rintro e w0 ⟨rfl, rfl⟩)))
  go_ret2
  exact ⟨rfl, Below.refl _ _⟩
theorem chv_law (n k : Int) (w : World) (hk : -9223372036854775808 ≤ k ∧ k ≤ 9223372036854775807) :
    Calls Try.prog 9 #[.int .i64 n, .int .i64 k] w fun e w' => e = .returned (.bool true) ∧ Below w.heap.size w w' := by
  obtain ⟨x, c, hS, hI⟩ : ∃ (x c : Int), (∀ w, Calls Try.prog 33 #[.int .i64 n, .int .i64 k] w fun e w' => e = .returned (.tuple #[.int .i64 x, .int .i64 c]) ∧ Below w.heap.size w w') ∧ (∀ w, Calls Try.prog 34 #[.int .i64 n, .int .i64 k] w fun e w' => e = .returned (.tuple #[.int .i64 x, .int .i64 c]) ∧ Below w.heap.size w w') := by
    by_cases h : CellOk n k 8
    · obtain ⟨⟨h1, h2⟩, h3, h4, h5⟩ := h
      obtain ⟨N, rfl⟩ : ∃ N : Nat, n = N := ⟨n.toNat, by omega⟩
      obtain ⟨K, rfl⟩ : ∃ K : Nat, k = K := ⟨k.toNat, by omega⟩
      exact ⟨_, _, fun w => chvS_ok N K (by omega) (by omega) (by omega) (by omega) w, fun w => chvI_ok N K (by omega) (by omega) (by omega) (by omega) w⟩
    · exact ⟨_, _, fun w => chvS_bad n k h w, fun w => chvI_bad n k h hk w⟩
  have hS := Lib.hid hS
  have hI := Lib.hid hI
  clear hk
  go_enter Try.func9, Try.ntmps9
  go_wp2_with (first
    | (go_at_call 33; ((with_reducible refine (hS.out _).mono ?_); rintro e w1 ⟨rfl, hB1⟩))
    | (go_at_call 34; ((with_reducible refine (hI.out _).mono ?_); rintro e w2 ⟨rfl, hB2⟩)))
  go_ret
  exact ⟨rfl, hB1.trans (hB2.mono hB1.size)⟩
end Go.Proofs.Ythofkmndgedkgaa
