/- A range over a function whose iterator writes a block of its own, the first that it makes; a body that always goes on. -/
import Derived.Test.YtlgdeciikliihaaBase
import Derived.RangeFuncNested
import Derived.RangeFuncBound
import Derived.RangeFuncCalls
import Derived.RangeFuncLeaves
import Derived.Shelf.Abstract
import Derived.OwnWalkIn
import Derived.TacticsInMore
import Derived.LoopNIn
import Derived.LoopIn
namespace Go
open Go.RowKit
set_option linter.unusedVariables false
/-- What a round leaves: the three blocks of book-keeping from B on, and what lay below B0. -/
structure RoundKeeps (B0 B : Nat) (W W' : World) : Prop where
  below : Below B0 W W'
  size : W.heap.size ≤ W'.heap.size
  same : ∀ k, B ≤ k → k ≤ B + 2 → W'.heap[k]? = W.heap[k]?
/-- All of L come, one after the other, at every loop whose rounds leave the iterator's own block as it lies. -/
def SeqMade {α : Type} (F : Fence) (n : Nat) (P : Program) (g : Nat) (lb : Array Value) (encs : α → Array Value) (L : List α) (w : World) : Prop :=
  ∀ (l B0 : Nat) (J : List α → World → Prop) (W : World), Below w.heap.size w W → B0 ≤ W.heap.size →
    (∀ pre A B row, J pre A → A.grownBy B row → (∀ r, row = some r → r = W.heap.size) → J pre B) →
    (∀ pre x rest W1, L = pre ++ x :: rest → J pre W1 → W.heap.size < W1.heap.size → YieldAt F (n - 1) P l (encs x) W1 fun e W' =>
      e = .returned (.bool true) ∧ J (pre ++ [x]) W' ∧ W'.heap[W.heap.size]? = W1.heap[W.heap.size]? ∧ W1.heap.size ≤ W'.heap.size ∧ Below B0 W1 W') →
    J [] W →
    CallsIn F n P g (#[.func (.yield l) #[] #[]] ++ lb) W fun e W' => (∃ v, e = .returned v) ∧ J L W' ∧ Below B0 W W'
section
variable {F : Fence} {n : Nat} {P : Program}
/-- Where a round's body goes on. -/
def onPost {α : Type} (B0 B : Nat) (I : List α → World → Prop) (xs : List α) (W : World) : Exit → Act → World → Prop
  | .normal, _, W' => RoundKeeps B0 B W W' ∧ I xs W'
  | _, _, _ => False
theorem wpIn_rangeFunc_made {α : Type} {g : Operand} {ps : Array Tmp} {assign body : Code} {Q : Exit → Act → World → Prop} {a : Act} {w : World}
    (hro : F.round = none) (h1 : 1 ≤ n) {gf : Nat} {lb : Array Value} (hg : a.eval g = .func (.func gf) #[] lb) (hFg : F.fn gf) (eg : ∀ args w, (callFunc gf args).run P w = .ok (.enter gf args) w)
    {encs : α → Array Value} {L : List α} {w0 : World} (hseq : SeqMade F (n - 1) P gf lb encs L w0) (hb0 : Below w0.heap.size w0 w) (hps : ∀ x, (encs x).size = ps.size)
    (B0 : Nat) (hB0 : B0 ≤ w.heap.size) (I : List α → World → Prop) (hI : ∀ pre A B row, I pre A → A.grownBy B row → (∀ r, row = some r → w.heap.size ≤ r ∧ r ≤ w.heap.size + 2) → I pre B) (h0 : I [] w) (a₁ : α → Act)
    (hassign : ∀ (l : Nat) (x : α) (W : World) (K : Act → World → Prop), K (a₁ x) W →
      assign.wpIn (F.inRound l) (n - 1 - 1) P (Exit.then K (fun _ _ _ => False)) { tmps := (ps.zip (encs x)).foldl (fun t (p, v) => t.setIfInBounds p v) a.tmps, defers := [] } W)
    (hbody : ∀ (l : Nat) (pre : List α) (x : α) (rest : List α) (W : World), L = pre ++ x :: rest → I pre W → w.heap.size + 2 < W.heap.size → body.wpIn (F.inRound l) (n - 1 - 1) P (onPost B0 w.heap.size I (pre ++ [x]) W) (a₁ x) W)
    (hdone : ∀ (D : Nat) (W : World), w.heap.size ≤ D → I L W → Below B0 w W → W.heap[D]? = some (.deferred (some [])) → Q .normal { a with defers := { target := .collected D, args := #[] } :: a.defers } W) :
    (Code.rangeFunc g ps assign body).wpIn F n P Q a w := by
  refine wpIn_rangeFunc fun fn hfn => ?_
  rw [hro]
  obtain ⟨rc, hrc⟩ : ∃ rc : LoopState → Loop, rc = fun st => { state := st, pending := none, fn, tmps := a.tmps, params := ps, assign, body, defers := w.heap.size } := ⟨_, rfl⟩
  obtain ⟨W1, hW1⟩ : ∃ W1, (w.alloc (.deferred (some []))).alloc (.loop (rc .ready)) = W1 := ⟨_, rfl⟩
  have z1 : W1.heap.size = w.heap.size + 2 := by rw [← hW1]; simp
  have l1 : W1.heap[w.heap.size + 1]? = some (.loop (rc .ready)) := by
    rw [← hW1]; have := World.alloc_heap_new (w.alloc (.deferred (some []))) (.loop (rc .ready)); rwa [World.size_alloc] at this
  have d1 : W1.heap[w.heap.size]? = some (.deferred (some [])) := by
    rw [← hW1]; exact (Below.heap_alloc _ _ _ (by simp)).trans (World.alloc_heap_new w _)
  have g1 : ∀ r, (none : Option Nat) = some r → w.heap.size ≤ r ∧ r ≤ w.heap.size + 2 := fun r e => (by cases e)
  have i1 : I [] W1 := by rw [← hW1]; exact hI _ _ _ none (hI _ _ _ none h0 (World.grownBy_alloc _ _ _) g1) (World.grownBy_alloc _ _ _) g1
  have bw : Below B0 w W1 := by rw [← hW1]; exact ((Below.refl _ w).alloc hB0 _).alloc (by simp; omega) _
  have b1 : Below w0.heap.size w0 W1 := by
    rw [← hW1]; exact hb0.trans ((((Below.refl _ w).alloc (Nat.le_refl _) _).alloc (by simp) _).mono hb0.size)
  refine ⟨w.heap.size + 1, [{ target := .collected w.heap.size, args := #[] }], W1, { target := .fn (.func gf) lb, args := #[.func (.yield (w.heap.size + 1)) #[] #[]] }, W1, gf,
    #[.func (.yield (w.heap.size + 1)) #[] #[]] ++ lb, W1, by rw [← hW1, hrc]; exact run_enterLoop_outer _ _ _ _ _, by simp only [resolve, hg]; simp [go_sem], ?_, by simp [invoke, go_sem, eg], fun _ => h1, ?_⟩
  · intro f' hf'; simp [Target.leads] at hf'; subst hf'; exact hFg
  refine (hseq (w.heap.size + 1) B0 (fun pre W => I pre W ∧ W.heap[w.heap.size + 1]? = some (.loop (rc .ready)) ∧ W.heap[w.heap.size]? = some (.deferred (some []))) W1 b1 (by omega) ?_ ?_ ⟨i1, l1, d1⟩).mono ?_
  · rintro pre A B row ⟨hi, hl, hd⟩ hg' hr
    have e1 : ∀ k, k ≤ w.heap.size + 1 → k < A.heap.size → B.heap[k]? = A.heap[k]? := fun k hk hA => hg'.block k hA (fun e => by
      have := hr k e.symm; omega)
    exact ⟨hI _ _ _ row hi hg' (fun r e => by have := hr r e; omega), (e1 _ (by omega) (Array.getElem?_eq_some_iff.1 hl).1).trans hl, (e1 _ (by omega) (Array.getElem?_eq_some_iff.1 hd).1).trans hd⟩
  · rintro pre x rest W hL ⟨hi, hl, hd⟩ hsz
    have hlt : w.heap.size + 1 < W.heap.size := (Array.getElem?_eq_some_iff.1 hl).1
    have hy := run_yield (P := P) (args := encs x) hl (by rw [hrc]; exact hps x)
    rw [hrc] at hy
    refine ⟨fn, _, assign, body, hy, roundIn_of_wpIn hfn (hassign _ x W _ ⟨_, run_beginRound hl (by rw [hrc]), ?_⟩)⟩
    obtain ⟨W2, hW2⟩ : ∃ W2, W.putObj (w.heap.size + 1) (.loop { rc .ready with state := .busy }) = W2 := ⟨_, rfl⟩
    rw [hW2]
    have l2 : W2.heap[w.heap.size + 1]? = some (.loop { rc .ready with state := .busy }) := by rw [← hW2]; exact World.putObj_heap_same hlt
    have o2 : ∀ k, k ≠ w.heap.size + 1 → W2.heap[k]? = W.heap[k]? := fun k hk => by rw [← hW2]; exact World.putObj_heap_other hk
    have z2 : W2.heap.size = W.heap.size := by rw [← hW2]; simp
    have gr2 : W.grownBy W2 (some (w.heap.size + 1)) := by rw [← hW2]; exact grownBy_putObj' W _ _
    have i2 : I pre W2 := hI _ _ _ _ hi gr2 (fun r e => by cases e; omega)
    refine wpIn_mono (hbody _ pre x rest W2 hL i2 (by omega)) ?_
    rintro e a3 W3 hp
    cases e with
    | normal =>
      obtain ⟨hk, hi3⟩ := hp
      have l3 : W3.heap[w.heap.size + 1]? = some (.loop { rc .ready with state := .busy }) := (hk.same _ (by omega) (by omega)).trans l2
      have hr := run_endRound (P := P) none l3
      rw [hrc] at hr
      refine ⟨_, _, hr, rfl, ?_⟩
      have gr3 : W3.grownBy (W3.putObj (w.heap.size + 1) (.loop { rc .ready with state := .ready, pending := none })) (some (w.heap.size + 1)) := grownBy_putObj' W3 _ _
      have q3 : ∀ k, k ≠ w.heap.size + 1 → (W3.putObj (w.heap.size + 1) (.loop { rc .ready with state := .ready, pending := none })).heap[k]? = W3.heap[k]? := fun k hk => World.putObj_heap_other hk
      have key : (I (pre ++ [x]) (W3.putObj (w.heap.size + 1) (.loop { rc .ready with state := .ready, pending := none })) ∧
          (W3.putObj (w.heap.size + 1) (.loop { rc .ready with state := .ready, pending := none })).heap[w.heap.size + 1]? = some (.loop (rc .ready)) ∧
          (W3.putObj (w.heap.size + 1) (.loop { rc .ready with state := .ready, pending := none })).heap[w.heap.size]? = some (.deferred (some []))) ∧
          (W3.putObj (w.heap.size + 1) (.loop { rc .ready with state := .ready, pending := none })).heap[W1.heap.size]? = W.heap[W1.heap.size]? ∧
          W.heap.size ≤ (W3.putObj (w.heap.size + 1) (.loop { rc .ready with state := .ready, pending := none })).heap.size ∧
          Below B0 W (W3.putObj (w.heap.size + 1) (.loop { rc .ready with state := .ready, pending := none })) := by
        refine ⟨⟨hI _ _ _ _ hi3 gr3 (fun r e => by cases e; omega), ?_, ?_⟩, ?_, ?_, ?_⟩
        · rw [World.putObj_heap_same (Array.getElem?_eq_some_iff.1 l3).1, hrc]
        · rw [q3 _ (by omega), hk.same _ (Nat.le_refl _) (by omega), o2 _ (by omega)]; exact hd
        · rw [q3 _ (by omega), hk.same _ (by omega) (by omega), o2 _ (by omega)]
        · have := hk.size; simp; omega
        · exact ((Below.refl B0 W).grown gr2 (by omega) (fun k e => by cases e; omega)).trans (hk.below.trans ((Below.refl B0 W3).grown gr3 (by have := hk.size; omega) (fun k e => by cases e; omega)))
      rw [hrc] at key ⊢
      exact key
    | ret => exact hp.elim
    | exit id => exact hp.elim
    | goto t => exact hp.elim
    | panic ch => exact hp.elim
    | outgrown => exact hp.elim
  · rintro e W2 ⟨⟨v, rfl⟩, ⟨hi, hl, hd⟩, hbl⟩
    have gr : W2.grownBy (W2.putObj (w.heap.size + 1) (.loop { rc .ready with state := .exhausted })) (some (w.heap.size + 1)) := grownBy_putObj' W2 _ _
    have hq : (W2.putObj (w.heap.size + 1) (.loop { rc .ready with state := .exhausted })).heap[w.heap.size]? = some (.deferred (some [])) := (World.putObj_heap_other (by omega)).trans hd
    have hB : Below B0 w (W2.putObj (w.heap.size + 1) (.loop { rc .ready with state := .exhausted })) := (bw.trans hbl).trans ((Below.refl B0 W2).grown gr (by have := hbl.size; omega) (fun k e => by cases e; omega))
    refine ⟨none, _, ?_, hdone _ _ (Nat.le_refl _) (hI _ _ _ _ hi gr (fun r e => by cases e; omega)) hB hq⟩
    have := run_endLoop (P := P) hl (by rw [hrc]; simp)
    rw [hrc] at this ⊢
    exact this
end
end Go
