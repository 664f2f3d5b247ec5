/- The iterator of half diagrams: a block of its own; what it gives. -/
import Derived.Test.YtlgdeciikliihaaExt
import Derived.Stop.RegionWithIn
namespace Go.Proofs.Ytlgdeciikliihaa
open Go.RowKit Go.Shelf
attribute [local go_sem] Oper.semAt_some
set_option linter.unusedVariables false
set_option linter.unusedSimpArgs false
theorem made8c (n : Nat) : madeCells #[Value.int .u8 0] n = mcells (List.replicate n 0) := by
  apply Array.toList_inj.1
  unfold madeCells mcells
  simp only [Array.toList_map, Array.toList_range, List.map_replicate]
  apply List.ext_getElem?
  intro i
  rw [List.getElem?_map, List.getElem?_replicate]
  by_cases h : i < n
  · rw [List.getElem?_range h, if_pos h]
    simp [Nat.mod_one]
  · rw [if_neg h, List.getElem?_eq_none (by simpa using h)]; rfl
theorem makeU0 (n : Nat) (hn : n ≤ 1048576) : ∀ w : World, (Instr.makeSlice 86 (.int .i64 0) (.int .i64 n)).run Try.prog w = .ok (.slice (some ⟨w.heap.size, 0, none⟩) 0 n) (w.alloc (.cells (mcells (List.replicate n 0)) 5)) := by
  intro w
  obtain ⟨i0, hi0, hz0, hz1, hz2⟩ := info_parts info8
  have := run_make w 86 5 i0 (.int .u8 0) Try.underlying86 hi0 hz0 .i64 .i64 (0 : Int) (n : Int) (by omega) (by omega) (by rw [hz2]; omega) (by omega)
  rw [this, hz1]
  simp only [Int.toNat_natCast, Nat.mul_one]
  rw [← made8c]
  rfl
theorem grown_drew (W : World) : W.grownBy W.drew none := ⟨rfl, rfl, rfl, Nat.le_refl _, fun _ _ _ => rfl⟩
set_option maxRecDepth 100000 in
set_option maxHeartbeats 4000000 in
theorem sea_made (F : Fence) (hd : F.depth = none) (hf : F.fn 114) (hf2 : F.fn 115) (hro : F.round = none) (n : Nat) (bn bo N o : Nat) (hN : N ≤ 100) (ho : o ≤ 100) (w : World)
    (h1 : bn < w.heap.size) (h2 : bo < w.heap.size) (c1 : w.cell? ⟨bn, 0, none⟩ = some (.int .i64 N)) (c2 : w.cell? ⟨bo, 0, none⟩ = some (.int .i64 o)) :
    SeqMade F n Try.prog 114 #[.pointer (some ⟨bn, 0, none⟩), .pointer (some ⟨bo, 0, none⟩)] (fun x => #[hval x]) (allH N o) w := by
  intro l B0 J W hW hB0 hJ hY h0
  have hdd : ∀ k : Nat, (F.depth.isSome = true → 1 ≤ k) := fun k h => by rw [hd] at h; cases h
  have d1 : W.cell? ⟨bn, 0, none⟩ = some (.int .i64 N) := (hW.cell (p := ⟨bn, 0, none⟩) h1).trans c1
  have d2 : W.cell? ⟨bo, 0, none⟩ = some (.int .i64 o) := (hW.cell (p := ⟨bo, 0, none⟩) h2).trans c2
  have s1 := Nat.lt_of_lt_of_le h1 hW.size
  have s2 := Nat.lt_of_lt_of_le h2 hW.size
  have e1 : (W.alloc (.cells (mcells (List.replicate N 0)) 5)).cell? ⟨bn, 0, none⟩ = some (.int .i64 N) := by
    rw [((Below.refl W.heap.size W).alloc (Nat.le_refl _) _).cell (p := ⟨bn, 0, none⟩) s1]; exact d1
  have e2 : (W.alloc (.cells (mcells (List.replicate N 0)) 5)).cell? ⟨bo, 0, none⟩ = some (.int .i64 o) := by
    rw [((Below.refl W.heap.size W).alloc (Nat.le_refl _) _).cell (p := ⟨bo, 0, none⟩) s2]; exact d2
  have hmk := makeU0 N (by omega)
  have hI : Bys (W.alloc (.cells (mcells (List.replicate N 0)) 5)) W.heap.size W.heap.size N (MI []) := Bys.new _ _ _ _ (Nat.le_refl _) rfl (by unfold maxLen; omega) _ (by rw [mcells_size]; simp)
  have hJ0 : J [] (W.alloc (.cells (mcells (List.replicate N 0)) 5)) := hJ _ _ _ none h0 (World.grownBy_alloc _ _ _) (fun r e => by cases e)
  have hE := Lib.hid (show ∀ W1, Bys W1 W.heap.size W.heap.size N (MI []) → J [] W1 → CallsIn F (n - 1) Try.prog 115 #[.slice (some ⟨W.heap.size, 0, none⟩) (0 : Nat) N, .int .i64 0, .int .i64 o, .int .i64 N, .func (.yield l) #[] #[]] W1 (ExtPost J W.heap.size B0 N [] (allH N o) [] W1) from fun W1 hB hj =>
    ext_in F hd hf2 hro l W.heap.size B0 N hB0 hN (allH N o) J hJ (fun m pre x rest W2 hL hj2 hs => yieldAny hd m (hY pre x rest W2 hL hj2 hs)) N 0 o [] [] [] (n - 1) 0 W1 hB rfl (by omega) (Nat.le_refl _) ho (by simp [allH]) hj)
  have HI := Lib.hid hI
  have HJ0 := Lib.hid hJ0
  have HJ := Lib.hid hJ
  clear hI hJ0 hY h0 hJ
  refine callsIn_of_wp Try.func114 rfl hf ?_ hro
  simp only [Try.ntmps114, List.size_toArray, List.length_cons, List.length_nil, Nat.reduceAdd, Nat.reduceSub, Array.replicate_succ, Array.replicate_zero, List.push_toArray, List.append_toArray, List.nil_append, List.cons_append]
  gi_region_with (first
    | ((try refine ⟨hdd _, ?_⟩); gi_at_call 115; refine (hE.out _ ?_ ?_).mono ?_; (focus exact HI.out); (focus exact HJ.out _ _ _ none HJ0.out (grown_drew _) (fun r e => by cases e)); rintro e W2 ⟨rfl, hJ2, hI2, hB2, hl2⟩))
  all_goals
    go_end0
    exact ⟨⟨_, rfl⟩, by simpa using hJ2, (((Below.refl B0 W).alloc hB0 _).drew).trans hB2⟩
end Go.Proofs.Ytlgdeciikliihaa
