/- The contract of the program's shapeOf. -/
import Derived.Test.YthjgcakpimbcbaaShp
import Derived.Test.YthjgcakpimbcbaaOn
namespace Go.Proofs.Ythjgcakpimbcbaa
open Go.RowKit
set_option linter.unusedVariables false
theorem mkSides (P : Nat) (h1 : 1 ≤ P) (h8 : P ≤ 8) : ∀ w : World, (Instr.makeSlice 48 (.int .u8 (P : Int)) (.int .u8 (P : Int))).run Try.prog w = .ok (.slice (some ⟨w.heap.size, 0, none⟩) P P) (w.alloc (.cells (icells (List.replicate (2 * P) 0)) 59)) := by
  have h : P = 1 ∨ P = 2 ∨ P = 3 ∨ P = 4 ∨ P = 5 ∨ P = 6 ∨ P = 7 ∨ P = 8 := by omega
  clear h1 h8
  rcases h with rfl | rfl | rfl | rfl | rfl | rfl | rfl | rfl <;> (intro w; kernel_rfl)
theorem rowSh {c : Array Value} (h : c.size = 2) : (Try.prog.info? 50).map (·.size) = some c.size := by rw [h]; kernel_rfl
theorem builtSh (p q : Option Addr) (l c m d : Nat) : Try.prog.built 50 [(0, .slice p l c), (1, .slice q m d)] = some #[.slice p l c, .slice q m d] := by kernel_rfl
/-- The numbers at the places behind k points. -/
def arZ (n : Int) (ms : List Int) (N : Nat) : Nat → List Int
  | 0 => List.replicate (2 * N) 0
  | k + 1 => (arZ n ms N k).set (pl n k).toNat (ms.getD k 0)
theorem arZ_len (n : Int) (ms : List Int) (N k : Nat) : (arZ n ms N k).length = 2 * N := by
  induction k with
  | zero => simp [arZ]
  | succ k ih => simp [arZ, ih]
/-- Upper and lower points of the parts, behind k points. -/
def sdC (N : Nat) (ms : List Int) (k : Nat) : Nat := (ms.getD k 0).toNat * 2 + (if k < N then 0 else 1)
def sdZ (N P : Nat) (ms : List Int) : Nat → List Int
  | 0 => List.replicate (2 * P) 0
  | k + 1 => (sdZ N P ms k).set (sdC N ms k) ((sdZ N P ms k).getD (sdC N ms k) 0 + 1)
theorem sdZ_len (N P : Nat) (ms : List Int) (k : Nat) : (sdZ N P ms k).length = 2 * P := by
  induction k with
  | zero => simp [sdZ]
  | succ k ih => simp [sdZ, ih]
theorem sdZ_bd (N P : Nat) (ms : List Int) (k i : Nat) : 0 ≤ (sdZ N P ms k).getD i 0 ∧ (sdZ N P ms k).getD i 0 ≤ k := by
  induction k generalizing i with
  | zero => rw [sdZ, List.getD_eq_getElem?_getD, List.getElem?_replicate]; split <;> simp
  | succ k ih =>
    have h1 := ih i
    have h2 := ih (sdC N ms k)
    rw [sdZ, List.getD_eq_getElem?_getD, List.getElem?_set]
    by_cases e : sdC N ms k = i
    · rw [if_pos e]
      split
      · simp only [Option.getD_some]; omega
      · simp; omega
    · rw [if_neg e, ← List.getD_eq_getElem?_getD]; omega
def parN (ms : List Int) (N : Nat) : Nat := (mxL (ms.take (2 * N)) (2 * N - 1)).toNat + 1
set_option maxRecDepth 100000 in
set_option maxHeartbeats 4000000 in
theorem shapeOf_nat (N : Nat) (ms : List Int) (hms : ms.length = 8) (hA : Nums ms) (w : World) (h1 : 1 ≤ N) (h4 : N ≤ 4) :
    Calls Try.prog 27 #[.agg (dcells N ms)] w fun e w' => ∃ ga gp, e = .returned (.agg #[.slice (some ⟨ga, 0, none⟩) (2 * N) (2 * N), .slice (some ⟨gp, 0, none⟩) (parN ms N) (parN ms N)]) ∧ w.heap.size ≤ ga ∧ w.heap.size ≤ gp ∧ Own w' ga (mcells (arZ N ms N (2 * N))) 5 ∧ Own w' gp (icells (sdZ N (parN ms N) ms (2 * N))) 59 ∧ Below w.heap.size w w' := by
  have hl := Lib.hid hms
  have hA' := Lib.hid hA
  have c0 := dcells_zero N ms
  have htA : ∀ k, 0 ≤ (ms.take (2 * N)).getD k 0 ∧ (ms.take (2 * N)).getD k 0 < 8 := fun k => by
    by_cases h : k < 2 * N
    · rw [getD_take _ _ _ h]; exact hA k
    · rw [List.getD_eq_getElem?_getD, List.getElem?_eq_none (by simp; omega)]; simp
  have hbd := mxL_bd _ htA (2 * N - 1)
  obtain ⟨P, hP⟩ : ∃ P, parN ms N = P := ⟨_, rfl⟩
  have hPM : (P : Int) = mxL (ms.take (2 * N)) (2 * N - 1) + 1 := by rw [← hP]; unfold parN; omega
  have hpm := Lib.hid (fun i (hi : i < 2 * N) => show (ms.getD i 0).toNat < P by have := mxL_ge (ms.take (2 * N)) (2 * N - 1) i (by omega); rw [getD_take _ _ _ hi] at this; have := hA i; omega)
  rw [hP]
  obtain ⟨M, hM⟩ : ∃ M, mxL (ms.take (2 * N)) (2 * N - 1) = M := ⟨_, rfl⟩
  have hmax := Lib.hid (fun w1 (hO : Own w1 w.heap.size (dcells N ms) 38) => (by
    have := maxB_any w.heap.size 1 8 (2 * N - 1) (ms.take (2 * N)) w1 (by simp; omega) (by omega) htA (by have := hO.rdP 0 (2 * N) (by omega); simpa using this)
    rw [hM, show 2 * N - 1 + 1 = 2 * N by omega] at this
    exact this : Calls Try.prog 36 #[.slice (some ⟨w.heap.size, 1, none⟩) (2 * N) 8] w1 fun e w' => e = .returned (.int .u8 M) ∧ w1 = w'))
  rw [hM] at hbd hPM
  have hsl := sl8 w.heap.size (N : Int) (by omega) (by omega)
  rw [show (2 * (N : Int)).toNat = 2 * N by omega] at hsl
  have hmkA := makeB (2 * N) (by omega)
  have e2 : (((2 * N : Nat)) : Int) = 2 * (N : Int) := by omega
  rw [e2] at hmkA
  have hmkP := mkSides P (by omega) (by omega)
  have hPM' : M + 1 = (P : Int) := by omega
  obtain ⟨m0, m8⟩ := hbd
  have hwr8 : IntKind.u8.wrap (M + 1) = (P : Int) := by rw [hPM']; exact IntWalk.u8_in _ (by omega)
  have hwr : IntKind.i64.wrap (2 * (N : Int)) = 2 * (N : Int) := IntWalk.i64_in _ (by omega)
  clear hms hA htA hP hM e2 hPM
  go_enter Try.func27, Try.ntmps27
  go_wp2
  have hOa : Own ((w.alloc (.cells (dcells N ms) 38)).alloc (.cells #[.slice none 0 0, .slice none 0 0] 50)).drew w.heap.size (dcells N ms) 38 := (Own.new _ _ _).alloc _
  have hOr : Own ((w.alloc (.cells (dcells N ms) 38)).alloc (.cells #[.slice none 0 0, .slice none 0 0] 50)).drew (w.heap.size + 1) #[.slice none 0 0, .slice none 0 0] 50 := Own.at _ _ _ (by simp)
  have hBa : Below w.heap.size w ((w.alloc (.cells (dcells N ms) 38)).alloc (.cells #[.slice none 0 0, .slice none 0 0] 50)).drew := (((Below.refl _ _).alloc (Nat.le_refl _) _).alloc (by simp) _).drew
  obtain ⟨wd, hwd⟩ : ∃ wd, ((w.alloc (.cells (dcells N ms) 38)).alloc (.cells #[.slice none 0 0, .slice none 0 0] 50)).drew = wd := ⟨_, rfl⟩
  rw [hwd] at hOa hOr hBa
  have hlt1 := hOa.lt
  have hlt2 := hOr.lt
  refine wp_region_facts (by kernel_rfl) (by kernel_rfl) (fun a w' => ∃ x5 x14 x15 x16 x17 x18 x19 x20 x21 : Value, a = ⟨List.toArray [.agg (dcells N ms), .pointer (some ⟨w.heap.size, 0, none⟩), .pointer (some ⟨w.heap.size + 1, 0, none⟩), .int .i64 (N : Int), .slice (some ⟨w.heap.size, 1, none⟩) (2 * N) 8, x5, undef, undef, .pointer (some ⟨w.heap.size, 0, none⟩), .int .i64 (N : Int), .pointer (some ⟨w.heap.size, 1, none⟩), .int .i64 (N : Int), .int .i64 (2 * (N : Int)), .slice (some ⟨w.heap.size, 1, none⟩) (2 * N) 8, x14, x15, x16, x17, x18, x19, x20, x21, undef, undef, undef, undef, undef, undef, undef, undef, undef, undef, undef, undef, undef, undef, undef, undef, undef, undef, undef, undef, undef, undef, undef, undef, undef, undef, undef, undef, undef, undef, undef, undef, undef, undef, undef, undef, undef], []⟩ ∧ Below wd.heap.size wd w') (fun j a w' => match j with
      | 0 => sl a 14 = .int .i64 (N : Int)
      | 1 => sl a 15 = .int .i64 (2 * (N : Int))
      | 2 => ∃ g, wd.heap.size ≤ g ∧ sl a 16 = .slice (some ⟨g, 0, none⟩) (2 * N) (2 * N) ∧ Own w' g (mcells (List.replicate (2 * N) 0)) 5
      | 3 => sl a 17 = .slice (some ⟨w.heap.size, 1, none⟩) (2 * N) 8
      | 4 => sl a 18 = .int .u8 M
      | 5 => sl a 19 = .int .u8 (P : Nat)
      | 6 => ∃ g, wd.heap.size ≤ g ∧ sl a 20 = .slice (some ⟨g, 0, none⟩) P P ∧ Own w' g (icells (List.replicate (2 * P) 0)) 59
      | 7 => sl a 21 = .agg #[sl a 16, sl a 20] ∧ #[sl a 16, sl a 20].all (·.oneCell') = true
      | 8 => ∃ g, wd.heap.size ≤ g ∧ sl a 5 = .pointer (some ⟨g, 0, none⟩) ∧ ∃ c1 c2, Own w' g #[c1, c2] 50
      | 9 => ∃ g, wd.heap.size ≤ g ∧ sl a 5 = .pointer (some ⟨g, 0, none⟩) ∧ Own w' g #[sl a 16, sl a 20] 50
      | _ => True) ⟨_, _, _, _, _, _, _, _, _, rfl, by rw [← hwd]; exact Below.refl _ _⟩ ?_ ?_
  · refine (AllOps.cons ?_ (AllOps.cons ?_ (AllOps.cons ?_ (AllOps.cons ?_ (AllOps.cons ?_ (AllOps.cons ?_ (AllOps.cons ?_ (AllOps.cons ?_ (AllOps.cons ?_ (AllOps.cons ?_ AllOps.nil))))))))))
    · rintro a w0 ⟨x5, x14, x15, x16, x17, x18, x19, x20, x21, rfl, hB⟩ hd K hK
      go_wp2
      refine hK _ _ ⟨_, _, _, _, _, _, _, _, _, rfl, hB⟩ (rfl) ?_
      rintro (_|_|_|_|_|_|_|_|_|_|_) hj hn h <;> first | exact h | exact absurd rfl hj | (obtain ⟨g, hg, e, hO⟩ := h; exact ⟨g, hg, e, hO.alloc _⟩) | (obtain ⟨g, hg, e, c1, c2, hO⟩ := h; exact ⟨g, hg, e, c1, c2, hO.alloc _⟩) | (obtain ⟨g, hg, e, hO⟩ := h; exact ⟨g, hg, e, hO.only hN2 (fun q => by subst q; have := hO.symm.trans hO5; simp at this)⟩) | exact ⟨g5, hg5, rfl, _, _, hO2b⟩ | exact waits_no hn (by kernel_rfl)
    · rintro a w0 ⟨x5, x14, x15, x16, x17, x18, x19, x20, x21, rfl, hB⟩ hd K hK
      have d0 : x14 = _ := hd 0 (by kernel_rfl)
      subst d0
      go_wp2
      refine hK _ _ ⟨_, _, _, _, _, _, _, _, _, rfl, hB⟩ (rfl) ?_
      rintro (_|_|_|_|_|_|_|_|_|_|_) hj hn h <;> first | exact h | exact absurd rfl hj | (obtain ⟨g, hg, e, hO⟩ := h; exact ⟨g, hg, e, hO.alloc _⟩) | (obtain ⟨g, hg, e, c1, c2, hO⟩ := h; exact ⟨g, hg, e, c1, c2, hO.alloc _⟩) | (obtain ⟨g, hg, e, hO⟩ := h; exact ⟨g, hg, e, hO.only hN2 (fun q => by subst q; have := hO.symm.trans hO5; simp at this)⟩) | exact ⟨g5, hg5, rfl, _, _, hO2b⟩ | exact waits_no hn (by kernel_rfl)
    · rintro a w0 ⟨x5, x14, x15, x16, x17, x18, x19, x20, x21, rfl, hB⟩ hd K hK
      have d0 : x15 = _ := hd 1 (by kernel_rfl)
      subst d0
      go_wp2
      refine hK _ _ ⟨_, _, _, _, _, _, _, _, _, rfl, hB.alloc hB.size _⟩ (⟨_, hB.size, rfl, Own.new _ _ _⟩) ?_
      rintro (_|_|_|_|_|_|_|_|_|_|_) hj hn h <;> first | exact h | exact absurd rfl hj | (obtain ⟨g, hg, e, hO⟩ := h; exact ⟨g, hg, e, hO.alloc _⟩) | (obtain ⟨g, hg, e, c1, c2, hO⟩ := h; exact ⟨g, hg, e, c1, c2, hO.alloc _⟩) | (obtain ⟨g, hg, e, hO⟩ := h; exact ⟨g, hg, e, hO.only hN2 (fun q => by subst q; have := hO.symm.trans hO5; simp at this)⟩) | exact ⟨g5, hg5, rfl, _, _, hO2b⟩ | exact waits_no hn (by kernel_rfl)
    · rintro a w0 ⟨x5, x14, x15, x16, x17, x18, x19, x20, x21, rfl, hB⟩ hd K hK
      go_wp2
      refine hK _ _ ⟨_, _, _, _, _, _, _, _, _, rfl, hB⟩ (rfl) ?_
      rintro (_|_|_|_|_|_|_|_|_|_|_) hj hn h <;> first | exact h | exact absurd rfl hj | (obtain ⟨g, hg, e, hO⟩ := h; exact ⟨g, hg, e, hO.alloc _⟩) | (obtain ⟨g, hg, e, c1, c2, hO⟩ := h; exact ⟨g, hg, e, c1, c2, hO.alloc _⟩) | (obtain ⟨g, hg, e, hO⟩ := h; exact ⟨g, hg, e, hO.only hN2 (fun q => by subst q; have := hO.symm.trans hO5; simp at this)⟩) | exact ⟨g5, hg5, rfl, _, _, hO2b⟩ | exact waits_no hn (by kernel_rfl)
    · rintro a w0 ⟨x5, x14, x15, x16, x17, x18, x19, x20, x21, rfl, hB⟩ hd K hK
      have d0 : x17 = _ := hd 3 (by kernel_rfl)
      subst d0
      go_wp2_with (first | (go_at_call 36; ((with_reducible refine (hmax.out w0 (hOa.below hB hlt1)).mono ?_); rintro e w2 ⟨rfl, rfl⟩)))
      refine hK _ _ ⟨_, _, _, _, _, _, _, _, _, rfl, hB⟩ (rfl) ?_
      rintro (_|_|_|_|_|_|_|_|_|_|_) hj hn h <;> first | exact h | exact absurd rfl hj | (obtain ⟨g, hg, e, hO⟩ := h; exact ⟨g, hg, e, hO.alloc _⟩) | (obtain ⟨g, hg, e, c1, c2, hO⟩ := h; exact ⟨g, hg, e, c1, c2, hO.alloc _⟩) | (obtain ⟨g, hg, e, hO⟩ := h; exact ⟨g, hg, e, hO.only hN2 (fun q => by subst q; have := hO.symm.trans hO5; simp at this)⟩) | exact ⟨g5, hg5, rfl, _, _, hO2b⟩ | exact waits_no hn (by kernel_rfl)
    · rintro a w0 ⟨x5, x14, x15, x16, x17, x18, x19, x20, x21, rfl, hB⟩ hd K hK
      have d0 : x18 = _ := hd 4 (by kernel_rfl)
      subst d0
      go_wp2
      refine hK _ _ ⟨_, _, _, _, _, _, _, _, _, rfl, hB⟩ (rfl) ?_
      rintro (_|_|_|_|_|_|_|_|_|_|_) hj hn h <;> first | exact h | exact absurd rfl hj | (obtain ⟨g, hg, e, hO⟩ := h; exact ⟨g, hg, e, hO.alloc _⟩) | (obtain ⟨g, hg, e, c1, c2, hO⟩ := h; exact ⟨g, hg, e, c1, c2, hO.alloc _⟩) | (obtain ⟨g, hg, e, hO⟩ := h; exact ⟨g, hg, e, hO.only hN2 (fun q => by subst q; have := hO.symm.trans hO5; simp at this)⟩) | exact ⟨g5, hg5, rfl, _, _, hO2b⟩ | exact waits_no hn (by kernel_rfl)
    · rintro a w0 ⟨x5, x14, x15, x16, x17, x18, x19, x20, x21, rfl, hB⟩ hd K hK
      have d0 : x19 = _ := hd 5 (by kernel_rfl)
      subst d0
      go_wp2
      refine hK _ _ ⟨_, _, _, _, _, _, _, _, _, rfl, hB.alloc hB.size _⟩ (⟨_, hB.size, rfl, Own.new _ _ _⟩) ?_
      rintro (_|_|_|_|_|_|_|_|_|_|_) hj hn h <;> first | exact h | exact absurd rfl hj | (obtain ⟨g, hg, e, hO⟩ := h; exact ⟨g, hg, e, hO.alloc _⟩) | (obtain ⟨g, hg, e, c1, c2, hO⟩ := h; exact ⟨g, hg, e, c1, c2, hO.alloc _⟩) | (obtain ⟨g, hg, e, hO⟩ := h; exact ⟨g, hg, e, hO.only hN2 (fun q => by subst q; have := hO.symm.trans hO5; simp at this)⟩) | exact ⟨g5, hg5, rfl, _, _, hO2b⟩ | exact waits_no hn (by kernel_rfl)
    · rintro a w0 ⟨x5, x14, x15, x16, x17, x18, x19, x20, x21, rfl, hB⟩ hd K hK
      obtain ⟨g1, hg1, e1, hO1⟩ := hd 2 (by kernel_rfl)
      obtain ⟨g2, hg2, e2, hO2⟩ := hd 6 (by kernel_rfl)
      have e1 : x16 = _ := e1
      have e2 : x20 = _ := e2
      subst e1 e2
      go_wp2_with (first | (refine wpList_build_of rfl 50 #[(0, .tmp 16), (1, .tmp 20)] rfl #[.slice (some ⟨g1, 0, none⟩) (2 * N) (2 * N), .slice (some ⟨g2, 0, none⟩) P P] ?_ ?_; (exact builtSh _ _ _ _ _ _)))
      refine hK _ _ ⟨_, _, _, _, _, _, _, _, _, rfl, hB⟩ (⟨rfl, by simp [sl, Value.oneCell']⟩) ?_
      rintro (_|_|_|_|_|_|_|_|_|_|_) hj hn h <;> first | exact h | exact absurd rfl hj | (obtain ⟨g, hg, e, hO⟩ := h; exact ⟨g, hg, e, hO.alloc _⟩) | (obtain ⟨g, hg, e, c1, c2, hO⟩ := h; exact ⟨g, hg, e, c1, c2, hO.alloc _⟩) | (obtain ⟨g, hg, e, hO⟩ := h; exact ⟨g, hg, e, hO.only hN2 (fun q => by subst q; have := hO.symm.trans hO5; simp at this)⟩) | exact ⟨g5, hg5, rfl, _, _, hO2b⟩ | exact waits_no hn (by kernel_rfl)
    · rintro a w0 ⟨x5, x14, x15, x16, x17, x18, x19, x20, x21, rfl, hB⟩ hd K hK
      go_wp2
      refine hK _ _ ⟨_, _, _, _, _, _, _, _, _, rfl, hB.alloc hB.size _⟩ (⟨_, hB.size, rfl, _, _, Own.new _ _ _⟩) ?_
      rintro (_|_|_|_|_|_|_|_|_|_|_) hj hn h <;> first | exact h | exact absurd rfl hj | (obtain ⟨g, hg, e, hO⟩ := h; exact ⟨g, hg, e, hO.alloc _⟩) | (obtain ⟨g, hg, e, c1, c2, hO⟩ := h; exact ⟨g, hg, e, c1, c2, hO.alloc _⟩) | (obtain ⟨g, hg, e, hO⟩ := h; exact ⟨g, hg, e, hO.only hN2 (fun q => by subst q; have := hO.symm.trans hO5; simp at this)⟩) | exact ⟨g5, hg5, rfl, _, _, hO2b⟩ | exact waits_no hn (by kernel_rfl)
    · rintro a w0 ⟨x5, x14, x15, x16, x17, x18, x19, x20, x21, rfl, hB⟩ hd K hK
      obtain ⟨g5, hg5, e5, c1, c2, hO5⟩ := hd 8 (by kernel_rfl)
      have e5 : x5 = _ := e5
      have h7 := hd 7 (by kernel_rfl)
      have d7 : x21 = .agg #[x16, x20] := h7.1
      have HOC : #[x16, x20].all (·.oneCell') = true := h7.2
      clear h7
      subst e5 d7
      go_wp2_with (first | (refine wpList_store_own rfl 50 _ _ rfl _ _ rfl rfl 50 _ hO5 (rowSh rfl) rfl HOC ?_; intro w2 hO2b hN2))
      refine hK _ _ ⟨_, _, _, _, _, _, _, _, _, rfl, hB.trans (hN2.below.mono hg5)⟩ (⟨g5, hg5, rfl, hO2b⟩) ?_
      rintro (_|_|_|_|_|_|_|_|_|_|_) hj hn h <;> first | exact h | exact absurd rfl hj | (obtain ⟨g, hg, e, hO⟩ := h; exact ⟨g, hg, e, hO.alloc _⟩) | (obtain ⟨g, hg, e, c1, c2, hO⟩ := h; exact ⟨g, hg, e, c1, c2, hO.alloc _⟩) | (obtain ⟨g, hg, e, hO⟩ := h; exact ⟨g, hg, e, hO.only hN2 (fun q => by subst q; have := hO.symm.trans hO5; simp at this)⟩) | exact ⟨g5, hg5, rfl, _, _, hO2b⟩ | exact waits_no hn (by kernel_rfl)
  · rintro a w1 ⟨x5, x14, x15, x16, x17, x18, x19, x20, x21, rfl, hB⟩ hF
    obtain ⟨ga, hga, ea, hAo⟩ := hF 2 (by decide)
    obtain ⟨gp, hgp, ep, hPo⟩ := hF 6 (by decide)
    obtain ⟨g5, hg5, e5, h5o⟩ := hF 9 (by decide)
    have ea : x16 = _ := ea
    have ep : x20 = _ := ep
    have e5 : x5 = _ := e5
    have h5o : Own w1 g5 #[x16, x20] 50 := h5o
    subst ea ep e5
    have h12 : gp ≠ ga := fun q => by subst q; have := hAo.symm.trans hPo; simp at this
    have h51 : g5 ≠ ga := fun q => by subst q; have := hAo.symm.trans h5o; simp at this
    have h52 : gp ≠ g5 := fun q => by subst q; have := hPo.symm.trans h5o; simp at this
    have hO1 := hOa.below hB hlt1
    have hR1 := hOr.below hB hlt2
    have hB1 := hBa.trans (hB.mono (by omega))
    have hg1' : w.heap.size + 1 < ga := by omega
    have hg2' : w.heap.size + 1 < gp := by omega
    have hg3' : w.heap.size + 1 < g5 := by omega
    clear hF hB hOa hOr hBa hwd
    go_wp2
    go_loopw [24] (fun i wr => ∃ k : Nat, k ≤ 2 * N ∧ i = .int .i64 k ∧ Own wr ga (mcells (arZ N ms N k)) 5 ∧ Own wr gp (icells (sdZ N P ms k)) 59 ∧ Own wr g5 #[.slice (some ⟨ga, 0, none⟩) (2 * N) (2 * N), .slice (some ⟨gp, 0, none⟩) P P] 50 ∧ Own wr w.heap.size (dcells N ms) 38 ∧ Own wr (w.heap.size + 1) #[.slice none 0 0, .slice none 0 0] 50 ∧ Below w.heap.size w wr) (fun i _ => (2 * (N : Int) - intOf i).toNat)
    case atStart => exact ⟨0, by omega, rfl, hAo, hPo, h5o, hO1, hR1, hB1⟩
    case round =>
      clear hAo hPo h5o hO1 hR1 hB1
      obtain ⟨k, hk, rfl, hS, hT, hG, hO, hR, hB⟩ := hrel
      by_cases hlt : k < 2 * N
      · have i1 : (k : Int) < 2 * (N : Int) := by omega
        have x1 := hA'.out k
        have hpk := hpm.out k hlt
        have k1 := hO.cell (1 + k)
        rw [dcells_get _ _ _ (by rw [hl.out]; omega)] at k1
        have hst1 : arZ N ms N (k + 1) = (arZ N ms N k).set (pl N k).toNat (ms.getD k 0) := rfl
        obtain ⟨x, hye⟩ : ∃ x, ms.getD k 0 = x := ⟨_, rfl⟩
        rw [hye] at x1 hpk k1 hst1
        obtain ⟨x0, x8⟩ := x1
        have pb := pl_bd N k (by omega) (by omega) (by omega)
        have hpl := Lib.hid (fun w => placeI_any N k w (by omega) (by omega) (by omega) (by omega))
        obtain ⟨p, hp⟩ : ∃ p, pl N k = p := ⟨_, rfl⟩
        rw [hp] at pb hpl hst1
        obtain ⟨p0, p1, p2⟩ := pb
        have HS := Lib.hid hS
        have HT := Lib.hid hT
        have HG := Lib.hid hG
        have HO := Lib.hid hO
        have HR := Lib.hid hR
        have HB := Lib.hid hB
        clear hS hT hG hO hR hB hp
        go_wp2
        refine wp_region_on (fun w' => ∃ d, w' = wr.drewN d) [0, 1, 2, 3, 4, 5, 6] [] 7 (by kernel_rfl) (by kernel_rfl) ⟨1, rfl⟩ ?_
        simp only [List.map_cons, List.map_nil, opN_zero, opN_succ, List.drop_succ_cons, List.drop_zero]
        (apply wpOn_step; · (rintro wd2 ⟨d, rfl⟩ K hK; go_simp; exact hK))
        (apply wpOn_step; · (rintro wd2 ⟨d, rfl⟩ K hK; have z0 := (HG.out.drewN d).cell 0; go_simp; exact hK))
        (apply wpOn_step; · (rintro wd2 ⟨d, rfl⟩ K hK; go_simp; exact hK))
        (apply wpOn_step; · (rintro wd2 ⟨d, rfl⟩ K hK; go_simp; exact hK))
        (apply wpOn_step; · (rintro wd2 ⟨d, rfl⟩ K hK; go_simp; exact ⟨_, (hpl.out _).mono (fun e w2 h => ⟨h.1, h.2.symm⟩), hK⟩))
        (apply wpOn_step; · (rintro wd2 ⟨d, rfl⟩ K hK; go_simp; exact hK))
        (apply wpOn_step; · (rintro wd2 ⟨d, rfl⟩ K hK; go_simp; exact hK))
        refine wpOn_nil ?_
        rintro wd2 ⟨d, rfl⟩
        refine wpMid_nil ?_
        have hS1 := (HS.out.drewN d).set p.toNat (.int .u8 x)
        rw [mcells_set, ← hst1] at hS1
        have s1 := (HS.out.drewN d).cell p.toNat
        rw [mcells_get _ _ (by rw [arZ_len]; omega)] at s1
        have s2 := (HS.out.drewN d).free p.toNat
        have hT2 := (HT.out.drewN d).other (a := ⟨ga, p.toNat, none⟩) (by simpa using fun e => h12 e.symm) (.int .u8 x)
        have hS2 := hS1
        have hG2 := (HG.out.drewN d).other (a := ⟨ga, p.toNat, none⟩) (by simpa using fun e => h51 e.symm) (.int .u8 x)
        have hO2 := (HO.out.drewN d).other (a := ⟨ga, p.toNat, none⟩) (by simp; omega) (.int .u8 x)
        have hR2 := (HR.out.drewN d).other (a := ⟨ga, p.toNat, none⟩) (by simp; omega) (.int .u8 x)
        have hB2 := (Below.drewN HB.out d).setCell (p := ⟨ga, p.toNat, none⟩) (by simp; omega) (.int .u8 x)
        clear hS1
        by_cases hkn : k < N
        · have j1 : (k : Int) < (N : Int) := by omega

          have hsc : sdC N ms k = x.toNat * 2 := by unfold sdC; rw [hye, if_pos hkn, Nat.add_zero]
          have hst2 : sdZ N P ms (k + 1) = (sdZ N P ms k).set (x.toNat * 2) ((sdZ N P ms k).getD (x.toNat * 2) 0 + 1) := by rw [sdZ, hsc]
          have q1 := hT2.cell (x.toNat * 2)
          rw [icells_get _ _ (by rw [sdZ_len]; omega)] at q1
          have q2 := hT2.free (x.toNat * 2)
          have hs1 := hT2.set (x.toNat * 2) (.int .i64 ((sdZ N P ms k).getD (x.toNat * 2) 0 + 1))
          rw [icells_set, ← hst2] at hs1
          have hbnd := sdZ_bd N P ms k (x.toNat * 2)
          generalize (sdZ N P ms k).getD (x.toNat * 2) 0 = y at *
          obtain ⟨y0, y8⟩ := hbnd
          have K1 := Lib.hid hs1
          have K2 := Lib.hid (hS2.other (a := ⟨gp, x.toNat * 2, none⟩) (by simpa using h12) (.int .i64 (y + 1)))
          have K3 := Lib.hid (hG2.other (a := ⟨gp, x.toNat * 2, none⟩) (by simpa using h52) (.int .i64 (y + 1)))
          have K4 := Lib.hid (hO2.other (a := ⟨gp, x.toNat * 2, none⟩) (by simp; omega) (.int .i64 (y + 1)))
          have K5 := Lib.hid (hR2.other (a := ⟨gp, x.toNat * 2, none⟩) (by simp; omega) (.int .i64 (y + 1)))
          have K6 := Lib.hid (hB2.setCell (p := ⟨gp, x.toNat * 2, none⟩) (by simp; omega) (.int .i64 (y + 1)))
          have z1 := hG2.cell 1
          clear hsc hst2 hs1 hT2 hS2 hG2 hO2 hR2 hB2
          go_wp2
          go_roundw
          case rel => exact ⟨k + 1, by omega, by go_num, K2.out, K1.out, K3.out, K4.out, K5.out, K6.out⟩
          case measure => simp [intOf]; omega
        · have j1 : ¬ (k : Int) < (N : Int) := by omega

          have hsc : sdC N ms k = x.toNat * 2 + 1 := by unfold sdC; rw [hye, if_neg hkn]
          have hst2 : sdZ N P ms (k + 1) = (sdZ N P ms k).set (x.toNat * 2 + 1) ((sdZ N P ms k).getD (x.toNat * 2 + 1) 0 + 1) := by rw [sdZ, hsc]
          have q1 := hT2.cell (x.toNat * 2 + 1)
          rw [icells_get _ _ (by rw [sdZ_len]; omega)] at q1
          have q2 := hT2.free (x.toNat * 2 + 1)
          have hs1 := hT2.set (x.toNat * 2 + 1) (.int .i64 ((sdZ N P ms k).getD (x.toNat * 2 + 1) 0 + 1))
          rw [icells_set, ← hst2] at hs1
          have hbnd := sdZ_bd N P ms k (x.toNat * 2 + 1)
          generalize (sdZ N P ms k).getD (x.toNat * 2 + 1) 0 = y at *
          obtain ⟨y0, y8⟩ := hbnd
          have K1 := Lib.hid hs1
          have K2 := Lib.hid (hS2.other (a := ⟨gp, x.toNat * 2 + 1, none⟩) (by simpa using h12) (.int .i64 (y + 1)))
          have K3 := Lib.hid (hG2.other (a := ⟨gp, x.toNat * 2 + 1, none⟩) (by simpa using h52) (.int .i64 (y + 1)))
          have K4 := Lib.hid (hO2.other (a := ⟨gp, x.toNat * 2 + 1, none⟩) (by simp; omega) (.int .i64 (y + 1)))
          have K5 := Lib.hid (hR2.other (a := ⟨gp, x.toNat * 2 + 1, none⟩) (by simp; omega) (.int .i64 (y + 1)))
          have K6 := Lib.hid (hB2.setCell (p := ⟨gp, x.toNat * 2 + 1, none⟩) (by simp; omega) (.int .i64 (y + 1)))
          have z1 := hG2.cell 1
          clear hsc hst2 hs1 hT2 hS2 hG2 hO2 hR2 hB2
          go_wp2
          go_roundw
          case rel => exact ⟨k + 1, by omega, by go_num, K2.out, K1.out, K3.out, K4.out, K5.out, K6.out⟩
          case measure => simp [intOf]; omega
      · obtain rfl : k = 2 * N := by omega
        go_wp2_with (first
          | (refine wpList_load_row rfl 50 _ rfl _ rfl 50 _ (0, 0) _ hG Try.underlying50 rfl (rowSh rfl) ?_)
          | (refine wpList_store_own rfl 50 _ _ rfl _ _ rfl rfl 50 _ hR (rowSh rfl) rfl (by simp [Value.oneCell']) ?_; intro w9 hO9 hN9))
        refine bodyPost_ret (v := .agg #[.slice (some ⟨ga, 0, none⟩) (2 * N) (2 * N), .slice (some ⟨gp, 0, none⟩) P P]) (results_cell_row rfl _ _ _ _ _ (0, 0) _ rfl hO9 Try.underlying50 rfl (rowSh rfl)) rfl ⟨ga, gp, rfl, by omega, by omega, hS.only hN9 (by omega), hT.only hN9 (by omega), hB.trans (hN9.below.mono (by omega))⟩
end Go.Proofs.Ythjgcakpimbcbaa
