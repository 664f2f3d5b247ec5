/- The functions that the program makes for a loop value: numbers, and their products. -/
import Derived.Test.YtmcffhafonemeaaCheI
import Derived.Laws.EntriesVeiled
namespace Go.Proofs.Ytmcffhafonemeaa
open Go.RowKit
set_option linter.unusedVariables false
theorem chl_two (p c : Int) (h0 : 0 ≤ c) (h1 : c < p) : chl p c 2 = [1, c] := by
  simp only [chl, List.range_succ, List.range_zero, List.nil_append, List.map_cons, List.map_nil, List.cons_append]
  rw [cheb_zero, cheb_one p c h0 h1]
theorem ints_two (w : World) (b : Nat) (x y : Int) (base : Nat) (h : Own w b #[.int .i64 x, .int .i64 y] 2) (hb : base ≤ b) : Ints w base b 2 [x, y] :=
  ⟨hb, Nat.le_refl _, by unfold maxLen; decide, _, h, rfl, rfl⟩
/-- The world in which the two functions are made: six blocks behind w. -/
structure Six (w u : World) (p c : Int) : Prop where
  o0 : Own u w.heap.size #[.int .i64 p] 2
  o1 : Own u (w.heap.size + 1) #[.int .i64 c] 2
  o2 : Own u (w.heap.size + 1 + 1) #[(.func (.func 45) #[] #[.pointer (some ⟨w.heap.size + 1 + 1 + 1 + 1 + 1, 0, none⟩), .pointer (some ⟨w.heap.size, 0, none⟩), .pointer (some ⟨w.heap.size + 1, 0, none⟩)])] 46
  o3 : Own u (w.heap.size + 1 + 1 + 1) #[(.func (.func 47) #[] #[.pointer (some ⟨w.heap.size + 1 + 1 + 1, 0, none⟩), .pointer (some ⟨w.heap.size + 1 + 1, 0, none⟩), .pointer (some ⟨w.heap.size, 0, none⟩)])] 46
  o4 : Own u (w.heap.size + 1 + 1 + 1 + 1) #[.int .i64 1, .int .i64 c] 2
  o5 : Own u (w.heap.size + 1 + 1 + 1 + 1 + 1) #[.slice (some ⟨w.heap.size + 1 + 1 + 1 + 1, 0, none⟩) 2 2] 32
  b : Below w.heap.size w u
theorem six_made (w : World) (p c : Int) : Six w ((((((w.alloc (.cells #[.int .i64 p] 2)).alloc (.cells #[.int .i64 c] 2)).alloc (.cells #[(.func (.func 45) #[] #[.pointer (some ⟨w.heap.size + 1 + 1 + 1 + 1 + 1, 0, none⟩), .pointer (some ⟨w.heap.size, 0, none⟩), .pointer (some ⟨w.heap.size + 1, 0, none⟩)])] 46)).alloc (.cells #[(.func (.func 47) #[] #[.pointer (some ⟨w.heap.size + 1 + 1 + 1, 0, none⟩), .pointer (some ⟨w.heap.size + 1 + 1, 0, none⟩), .pointer (some ⟨w.heap.size, 0, none⟩)])] 46)).alloc (.cells #[.int .i64 1, .int .i64 c] 2)).alloc (.cells #[.slice (some ⟨w.heap.size + 1 + 1 + 1 + 1, 0, none⟩) 2 2] 32)) p c := by
  refine ⟨?_, ?_, ?_, ?_, ?_, ?_, ?_⟩
  · exact (((((Own.new _ _ _).alloc _).alloc _).alloc _).alloc _).alloc _
  · exact ((((Own.at _ _ _ (by simp)).alloc _).alloc _).alloc _).alloc _
  · exact (((Own.at _ _ _ (by simp)).alloc _).alloc _).alloc _
  · exact ((Own.at _ _ _ (by simp)).alloc _).alloc _
  · exact (Own.at _ _ _ (by simp)).alloc _
  · exact Own.at _ _ _ (by simp)
  · exact ((((((Below.refl _ _).alloc (Nat.le_refl _) _).alloc (by simp) _).alloc (by simp; omega) _).alloc (by simp; omega) _).alloc (by simp; omega) _).alloc (by simp; omega) _
set_option maxRecDepth 100000 in
theorem recI_any (p c : Int) (hc0 : 0 ≤ c) (hc1 : c < p) (w : World) :
    Calls Try.prog 28 #[.int .i64 p, .int .i64 c] w fun e w' => ∃ B : ChB, e = .returned (.tuple #[nfun B, pfun B]) ∧ ChT w' w.heap.size B p c 2 ∧ B.ks = [] ∧ Below w.heap.size w w' := by
  have hch := Lib.hid (chl_two p c hc0 hc1)
  have hmf : ∀ (fn : Fn) (first cap : Array Value) (w : World), (Instr.makeFunc fn first cap).run Try.prog w = .ok (.func fn first cap) w := fun _ _ _ _ => rfl
  have hsix := Lib.hid (six_made w p c)
  go_enter Try.func28, Try.ntmps28
  go_wp2
  go_region
  generalize ((((((w.alloc (.cells #[.int .i64 p] 2)).alloc (.cells #[.int .i64 c] 2)).alloc (.cells #[(.func (.func 45) #[] #[.pointer (some ⟨w.heap.size + 1 + 1 + 1 + 1 + 1, 0, none⟩), .pointer (some ⟨w.heap.size, 0, none⟩), .pointer (some ⟨w.heap.size + 1, 0, none⟩)])] 46)).alloc (.cells #[(.func (.func 47) #[] #[.pointer (some ⟨w.heap.size + 1 + 1 + 1, 0, none⟩), .pointer (some ⟨w.heap.size + 1 + 1, 0, none⟩), .pointer (some ⟨w.heap.size, 0, none⟩)])] 46)).alloc (.cells #[.int .i64 1, .int .i64 c] 2)).alloc (.cells #[.slice (some ⟨w.heap.size + 1 + 1 + 1 + 1, 0, none⟩) 2 2] 32)) = u at *
  have c2 := hsix.out.o2.cell 0
  have c3 := hsix.out.o3.cell 0
  go_wp2
  refine bodyPost_ret (v := .tuple #[(.func (.func 45) #[] #[.pointer (some ⟨w.heap.size + 1 + 1 + 1 + 1 + 1, 0, none⟩), .pointer (some ⟨w.heap.size, 0, none⟩), .pointer (some ⟨w.heap.size + 1, 0, none⟩)]), (.func (.func 47) #[] #[.pointer (some ⟨w.heap.size + 1 + 1 + 1, 0, none⟩), .pointer (some ⟨w.heap.size + 1 + 1, 0, none⟩), .pointer (some ⟨w.heap.size, 0, none⟩)])]) (by simp [results, Try.results28, go_sem, c2, c3]) rfl ⟨⟨w.heap.size + 1 + 1 + 1 + 1 + 1, w.heap.size, w.heap.size + 1, w.heap.size + 1 + 1 + 1, w.heap.size + 1 + 1, []⟩, rfl, ?_, rfl, hsix.out.b.drew⟩
  obtain ⟨o0, o1, o2, o3, o4, o5, b⟩ := hsix.out
  exact ⟨⟨w.heap.size + 1 + 1 + 1 + 1, 2, o5, by rw [hch.out]; exact ints_two _ _ _ _ _ o4 (by omega), by simp; omega, fun q hq => by simp at hq⟩, o0, o1, o3, o2, by simp; omega, Nat.le_refl _, by simp⟩
end Go.Proofs.Ytmcffhafonemeaa
