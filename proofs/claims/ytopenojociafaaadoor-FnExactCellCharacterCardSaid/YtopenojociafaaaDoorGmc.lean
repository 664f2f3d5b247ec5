/- A range over a function whose iterator writes a block of its own, the first that it makes; a body that always goes on. Letters as numbers, and as a string. Plain mathematics: the half diagrams that begin with some letters, in the order of the search. The search for half diagrams, as an iterator: its contract, by induction on the letters that are left. The iterator of half diagrams: a block of its own; what it gives. Plain mathematics: how many half diagrams there are; the tests of sizes; CountHalves, the model's. CountHalves: the program's, and the law. Words and laws of a slice of strings that the call itself made. Plain mathematics: the texts of brackets in order. slices.Collect over the search for half diagrams: all of them, in order, in a slice of its own. The laws' marks of texts: markText. Slices of texts that a call hands back: as own memory, to be read; the laws' comparisons, marks and holds of them. -/
import Derived.Test.YtopenojociafaaaDoorBase
import Derived.RangeFuncNested
import Derived.RangeFuncBound
import Derived.RangeFuncCalls
import Derived.RangeFuncLeaves
import Derived.Shelf.Abstract
import Derived.OwnWalkIn
import Derived.TacticsInMore
import Derived.LoopNIn
import Derived.LoopIn
import Derived.Test.YtopenojociafaaaDoorBys
import Derived.Lib.FrozenHead
import Derived.Laws.OwnMore
import Derived.WalkKit
import Derived.Stop.RegionWithIn
import Derived.Test.YtopenojociafaaaDoorImplA
import Derived.Test.YtopenojociafaaaDoorSpecA
import Derived.Test.YtopenojociafaaaDoorInts
import Derived.Laws.BytesArg
import Derived.Lib.QuietBelow
import Derived.WalkSmall
import Derived.StillTailTactics
import Derived.Deep.QuietTactic
import Derived.BigQuiet
namespace Go
open Go.RowKit
set_option linter.unusedVariables false
/-- What a round leaves: the three blocks of book-keeping from B on, and what lay below B0. -/
structure RoundKeeps (B0 B : Nat) (W W' : World) : Prop where
  below : Below B0 W W'
  size : W.heap.size ≤ W'.heap.size
  same : ∀ k, B ≤ k → k ≤ B + 2 → W'.heap[k]? = W.heap[k]?
/-- All of L come, one after the other, at every loop whose rounds leave the iterator's own block as it lies. -/
def SeqMade {α : Type} (F : Fence) (n : Nat) (P : Program) (g : Nat) (lb : Array Value) (encs : α → Array Value) (L : List α) (w : World) : Prop :=
  ∀ (l B0 : Nat) (J : List α → World → Prop) (W : World), Below w.heap.size w W → B0 ≤ W.heap.size →
    (∀ pre A B row, J pre A → A.grownBy B row → (∀ r, row = some r → r = W.heap.size) → J pre B) →
    (∀ pre x rest W1, L = pre ++ x :: rest → J pre W1 → W.heap.size < W1.heap.size → YieldAt F (n - 1) P l (encs x) W1 fun e W' =>
      e = .returned (.bool true) ∧ J (pre ++ [x]) W' ∧ W'.heap[W.heap.size]? = W1.heap[W.heap.size]? ∧ W1.heap.size ≤ W'.heap.size ∧ Below B0 W1 W') →
    J [] W →
    CallsIn F n P g (#[.func (.yield l) #[] #[]] ++ lb) W fun e W' => (∃ v, e = .returned v) ∧ J L W' ∧ Below B0 W W'
section
variable {F : Fence} {n : Nat} {P : Program}
/-- Where a round's body goes on. -/
def onPost {α : Type} (B0 B : Nat) (I : List α → World → Prop) (xs : List α) (W : World) : Exit → Act → World → Prop
  | .normal, _, W' => RoundKeeps B0 B W W' ∧ I xs W'
  | _, _, _ => False
theorem wpIn_rangeFunc_made {α : Type} {g : Operand} {ps : Array Tmp} {assign body : Code} {Q : Exit → Act → World → Prop} {a : Act} {w : World}
    (hro : F.round = none) (h1 : 1 ≤ n) {gf : Nat} {lb : Array Value} (hg : a.eval g = .func (.func gf) #[] lb) (hFg : F.fn gf) (eg : ∀ args w, (callFunc gf args).run P w = .ok (.enter gf args) w)
    {encs : α → Array Value} {L : List α} {w0 : World} (hseq : SeqMade F (n - 1) P gf lb encs L w0) (hb0 : Below w0.heap.size w0 w) (hps : ∀ x, (encs x).size = ps.size)
    (B0 : Nat) (hB0 : B0 ≤ w.heap.size) (I : List α → World → Prop) (hI : ∀ pre A B row, I pre A → A.grownBy B row → (∀ r, row = some r → w.heap.size ≤ r ∧ r ≤ w.heap.size + 2) → I pre B) (h0 : I [] w) (a₁ : α → Act)
    (hassign : ∀ (l : Nat) (x : α) (W : World) (K : Act → World → Prop), K (a₁ x) W →
      assign.wpIn (F.inRound l) (n - 1 - 1) P (Exit.then K (fun _ _ _ => False)) { tmps := (ps.zip (encs x)).foldl (fun t (p, v) => t.setIfInBounds p v) a.tmps, defers := [] } W)
    (hbody : ∀ (l : Nat) (pre : List α) (x : α) (rest : List α) (W : World), L = pre ++ x :: rest → I pre W → w.heap.size + 2 < W.heap.size → body.wpIn (F.inRound l) (n - 1 - 1) P (onPost B0 w.heap.size I (pre ++ [x]) W) (a₁ x) W)
    (hdone : ∀ (D : Nat) (W : World), w.heap.size ≤ D → I L W → Below B0 w W → W.heap[D]? = some (.deferred (some [])) → Q .normal { a with defers := { target := .collected D, args := #[] } :: a.defers } W) :
    (Code.rangeFunc g ps assign body).wpIn F n P Q a w := by
  refine wpIn_rangeFunc fun fn hfn => ?_
  rw [hro]
  obtain ⟨rc, hrc⟩ : ∃ rc : LoopState → Loop, rc = fun st => { state := st, pending := none, fn, tmps := a.tmps, params := ps, assign, body, defers := w.heap.size } := ⟨_, rfl⟩
  obtain ⟨W1, hW1⟩ : ∃ W1, (w.alloc (.deferred (some []))).alloc (.loop (rc .ready)) = W1 := ⟨_, rfl⟩
  have z1 : W1.heap.size = w.heap.size + 2 := by rw [← hW1]; simp
  have l1 : W1.heap[w.heap.size + 1]? = some (.loop (rc .ready)) := by
    rw [← hW1]; have := World.alloc_heap_new (w.alloc (.deferred (some []))) (.loop (rc .ready)); rwa [World.size_alloc] at this
  have d1 : W1.heap[w.heap.size]? = some (.deferred (some [])) := by
    rw [← hW1]; exact (Below.heap_alloc _ _ _ (by simp)).trans (World.alloc_heap_new w _)
  have g1 : ∀ r, (none : Option Nat) = some r → w.heap.size ≤ r ∧ r ≤ w.heap.size + 2 := fun r e => (by cases e)
  have i1 : I [] W1 := by rw [← hW1]; exact hI _ _ _ none (hI _ _ _ none h0 (World.grownBy_alloc _ _ _) g1) (World.grownBy_alloc _ _ _) g1
  have bw : Below B0 w W1 := by rw [← hW1]; exact ((Below.refl _ w).alloc hB0 _).alloc (by simp; omega) _
  have b1 : Below w0.heap.size w0 W1 := by
    rw [← hW1]; exact hb0.trans ((((Below.refl _ w).alloc (Nat.le_refl _) _).alloc (by simp) _).mono hb0.size)
  refine ⟨w.heap.size + 1, [{ target := .collected w.heap.size, args := #[] }], W1, { target := .fn (.func gf) lb, args := #[.func (.yield (w.heap.size + 1)) #[] #[]] }, W1, gf,
    #[.func (.yield (w.heap.size + 1)) #[] #[]] ++ lb, W1, by rw [← hW1, hrc]; exact run_enterLoop_outer _ _ _ _ _, by simp only [resolve, hg]; simp [go_sem], ?_, by simp [invoke, go_sem, eg], fun _ => h1, ?_⟩
  · intro f' hf'; simp [Target.leads] at hf'; subst hf'; exact hFg
  refine (hseq (w.heap.size + 1) B0 (fun pre W => I pre W ∧ W.heap[w.heap.size + 1]? = some (.loop (rc .ready)) ∧ W.heap[w.heap.size]? = some (.deferred (some []))) W1 b1 (by omega) ?_ ?_ ⟨i1, l1, d1⟩).mono ?_
  · rintro pre A B row ⟨hi, hl, hd⟩ hg' hr
    have e1 : ∀ k, k ≤ w.heap.size + 1 → k < A.heap.size → B.heap[k]? = A.heap[k]? := fun k hk hA => hg'.block k hA (fun e => by
      have := hr k e.symm; omega)
    exact ⟨hI _ _ _ row hi hg' (fun r e => by have := hr r e; omega), (e1 _ (by omega) (Array.getElem?_eq_some_iff.1 hl).1).trans hl, (e1 _ (by omega) (Array.getElem?_eq_some_iff.1 hd).1).trans hd⟩
  · rintro pre x rest W hL ⟨hi, hl, hd⟩ hsz
    have hlt : w.heap.size + 1 < W.heap.size := (Array.getElem?_eq_some_iff.1 hl).1
    have hy := run_yield (P := P) (args := encs x) hl (by rw [hrc]; exact hps x)
    rw [hrc] at hy
    refine ⟨fn, _, assign, body, hy, roundIn_of_wpIn hfn (hassign _ x W _ ⟨_, run_beginRound hl (by rw [hrc]), ?_⟩)⟩
    obtain ⟨W2, hW2⟩ : ∃ W2, W.putObj (w.heap.size + 1) (.loop { rc .ready with state := .busy }) = W2 := ⟨_, rfl⟩
    rw [hW2]
    have l2 : W2.heap[w.heap.size + 1]? = some (.loop { rc .ready with state := .busy }) := by rw [← hW2]; exact World.putObj_heap_same hlt
    have o2 : ∀ k, k ≠ w.heap.size + 1 → W2.heap[k]? = W.heap[k]? := fun k hk => by rw [← hW2]; exact World.putObj_heap_other hk
    have z2 : W2.heap.size = W.heap.size := by rw [← hW2]; simp
    have gr2 : W.grownBy W2 (some (w.heap.size + 1)) := by rw [← hW2]; exact grownBy_putObj' W _ _
    have i2 : I pre W2 := hI _ _ _ _ hi gr2 (fun r e => by cases e; omega)
    refine wpIn_mono (hbody _ pre x rest W2 hL i2 (by omega)) ?_
    rintro e a3 W3 hp
    cases e with
    | normal =>
      obtain ⟨hk, hi3⟩ := hp
      have l3 : W3.heap[w.heap.size + 1]? = some (.loop { rc .ready with state := .busy }) := (hk.same _ (by omega) (by omega)).trans l2
      have hr := run_endRound (P := P) none l3
      rw [hrc] at hr
      refine ⟨_, _, hr, rfl, ?_⟩
      have gr3 : W3.grownBy (W3.putObj (w.heap.size + 1) (.loop { rc .ready with state := .ready, pending := none })) (some (w.heap.size + 1)) := grownBy_putObj' W3 _ _
      have q3 : ∀ k, k ≠ w.heap.size + 1 → (W3.putObj (w.heap.size + 1) (.loop { rc .ready with state := .ready, pending := none })).heap[k]? = W3.heap[k]? := fun k hk => World.putObj_heap_other hk
      have key : (I (pre ++ [x]) (W3.putObj (w.heap.size + 1) (.loop { rc .ready with state := .ready, pending := none })) ∧
          (W3.putObj (w.heap.size + 1) (.loop { rc .ready with state := .ready, pending := none })).heap[w.heap.size + 1]? = some (.loop (rc .ready)) ∧
          (W3.putObj (w.heap.size + 1) (.loop { rc .ready with state := .ready, pending := none })).heap[w.heap.size]? = some (.deferred (some []))) ∧
          (W3.putObj (w.heap.size + 1) (.loop { rc .ready with state := .ready, pending := none })).heap[W1.heap.size]? = W.heap[W1.heap.size]? ∧
          W.heap.size ≤ (W3.putObj (w.heap.size + 1) (.loop { rc .ready with state := .ready, pending := none })).heap.size ∧
          Below B0 W (W3.putObj (w.heap.size + 1) (.loop { rc .ready with state := .ready, pending := none })) := by
        refine ⟨⟨hI _ _ _ _ hi3 gr3 (fun r e => by cases e; omega), ?_, ?_⟩, ?_, ?_, ?_⟩
        · rw [World.putObj_heap_same (Array.getElem?_eq_some_iff.1 l3).1, hrc]
        · rw [q3 _ (by omega), hk.same _ (Nat.le_refl _) (by omega), o2 _ (by omega)]; exact hd
        · rw [q3 _ (by omega), hk.same _ (by omega) (by omega), o2 _ (by omega)]
        · have := hk.size; simp; omega
        · exact ((Below.refl B0 W).grown gr2 (by omega) (fun k e => by cases e; omega)).trans (hk.below.trans ((Below.refl B0 W3).grown gr3 (by have := hk.size; omega) (fun k e => by cases e; omega)))
      rw [hrc] at key ⊢
      exact key
    | ret => exact hp.elim
    | exit id => exact hp.elim
    | goto t => exact hp.elim
    | panic ch => exact hp.elim
    | outgrown => exact hp.elim
  · rintro e W2 ⟨⟨v, rfl⟩, ⟨hi, hl, hd⟩, hbl⟩
    have gr : W2.grownBy (W2.putObj (w.heap.size + 1) (.loop { rc .ready with state := .exhausted })) (some (w.heap.size + 1)) := grownBy_putObj' W2 _ _
    have hq : (W2.putObj (w.heap.size + 1) (.loop { rc .ready with state := .exhausted })).heap[w.heap.size]? = some (.deferred (some [])) := (World.putObj_heap_other (by omega)).trans hd
    have hB : Below B0 w (W2.putObj (w.heap.size + 1) (.loop { rc .ready with state := .exhausted })) := (bw.trans hbl).trans ((Below.refl B0 W2).grown gr (by have := hbl.size; omega) (fun k e => by cases e; omega))
    refine ⟨none, _, ?_, hdone _ _ (Nat.le_refl _) (hI _ _ _ _ hi gr (fun r e => by cases e; omega)) hB hq⟩
    have := run_endLoop (P := P) hl (by rw [hrc]; simp)
    rw [hrc] at this ⊢
    exact this
end
end Go
namespace Go.Proofs.YtopenojociafaaaDoor
open Go.RowKit
/-- Letters as numbers, and as a string. -/
def MI (l : List UInt8) : List Int := l.map (fun c : UInt8 => ((c.toNat : Nat) : Int))
theorem MI_len (l : List UInt8) : (MI l).length = l.length := by simp [MI]
theorem MI_app (a b : List UInt8) : MI (a ++ b) = MI a ++ MI b := by simp [MI]
theorem MI_str (l : List UInt8) : strOfNums (MI l) = ⟨l.toArray⟩ := by
  unfold strOfNums MI
  congr 1
  apply Array.toList_inj.1
  simp [List.map_map, Function.comp_def]
end Go.Proofs.YtopenojociafaaaDoor
namespace Go.Proofs.YtopenojociafaaaDoor
open Go.RowKit
set_option linter.unusedVariables false
set_option linter.unusedSimpArgs false
/-- With r letters behind, in which b brackets are to be closed and o points open. -/
def exH : Nat → Nat → Nat → List UInt8 → List (List UInt8)
  | 0, _, _, pre => [pre]
  | r + 1, b, o, pre => (if b + o < r + 1 then exH r (b + 1) o (pre ++ [40]) else []) ++ (if 0 < b then exH r (b - 1) o (pre ++ [41]) else if o = 0 then [] else exH r 0 (o - 1) (pre ++ [124]))
theorem exH_zero (b o : Nat) (pre : List UInt8) : exH 0 b o pre = [pre] := rfl
theorem exH_step (r b o : Nat) (pre : List UInt8) : exH (r + 1) b o pre = (if b + o < r + 1 then exH r (b + 1) o (pre ++ [40]) else []) ++ (if 0 < b then exH r (b - 1) o (pre ++ [41]) else if o = 0 then [] else exH r 0 (o - 1) (pre ++ [124])) := rfl
/-- All half diagrams of n points with o open ones. -/
def allH (n o : Nat) : List (List UInt8) := exH n 0 o []
end Go.Proofs.YtopenojociafaaaDoor
namespace Go.Proofs.YtopenojociafaaaDoor
open Go.RowKit Go.Shelf
attribute [local go_sem] Oper.semAt_some
set_option linter.unusedVariables false
set_option linter.unusedSimpArgs false
theorem Bys.at {w : World} {b cap k : Nat} {xs : List Int} (hk : xs.length = k) (h : w.ownsRow b 5 1 (.slice (some ⟨b, 0, none⟩) k cap) k (xs.map (Value.int .u8))) : Bys w b b cap xs := by
  subst hk
  obtain ⟨g, c, hv, hB⟩ := Bys.of_owns h (fun e => by cases e)
  unfold bval at hv
  simp at hv
  obtain ⟨rfl, rfl⟩ := hv
  exact hB
theorem wpListIn_wanted {F : Fence} {n : Nat} {P : Program} {ops : Array Oper} {rest : List Oper} {o : Oper} {a : Act} {w : World} {Q : Exit → Act → World → Prop} (hw : Region.wanted o (yielded ops a.tmps) = true)
    (h : ∀ K : Act → World → Prop, (∀ a w, wpListIn F n P ops Q rest a w → K a w) → o.wpIn F n P a w K Q) : wpListIn F n P ops Q (o :: rest) a w :=
  wpListIn_step fun K hK => by rw [if_pos hw]; exact h K hK
theorem wpListIn_bys1 {F : Fence} {n : Nat} {ops : Array Oper} {rest : List Oper} {o : Oper} {a : Act} {w : World} {Q : Exit → Act → World → Prop} (hgd : Region.wanted o (yielded ops a.tmps) = true) (s x : Operand)
    (ho : o.op = .call { callee := .builtin .append, args := #[s, x], argTypes := #[69, 69] })
    (b cap k : Nat) (xs : List Int) (y : Int) (hk : xs.length = k) (hs : a.eval s = .slice (some ⟨b, 0, none⟩) k cap) (hi : Bys w b b cap xs) (ad : Addr) (c : Nat)
    (hx : a.eval x = .slice (some ad) 1 c) (hy : w.cell? ad = some (.int .u8 y)) (hr : k + 1 ≤ cap)
    (h : ∀ w', Bys w' b b cap (xs ++ [y]) → w.grownBy w' (some b) → wpListIn F n Tryd.prog ops Q rest (a.put o.dst (.slice (some ⟨b, 0, none⟩) ((k + 1 : Nat)) cap)) w') : wpListIn F n Tryd.prog ops Q (o :: rest) a w := by
  obtain ⟨i0, hi0, hz0, hz1, hz2⟩ := info_parts info8
  have hw := hi.owns
  unfold bval at hw
  rw [hk] at hw
  refine wpListIn_wanted hgd fun K hK => ?_
  obtain ⟨w', hrun, r1, r2⟩ := run_append_fits (P := Tryd.prog) w b 69 o.type 5 i0 1 Tryd.underlying69 hi0 hz1 b k cap _ hw ad 1 c [.int .u8 y] rfl
    (by
      intro j u hj
      match j, hj with
      | 0, hj =>
        simp at hj; subst hj
        have e : ad.add 0 = ad := by unfold Addr.add; split <;> simp_all
        rw [e]; exact hy
      | j + 1, hj => simp at hj) (by simp [Value.oneCell']) hr
  unfold Oper.wpIn
  refine ⟨?_, ?_⟩
  · simp [Oper.about, ho, resolve, Target.leads, Sem.run_pure]
  · rw [Oper.semAt_plain F _ _ (by rw [ho]; intro c hc'; cases hc')]
    simp [execOp, ho, resolve, invoke, builtin, hs, hx, hrun, Result.andThen]
    refine hK _ _ (h w' (Bys.at (k := k + 1) (by simp [hk]) ?_) r2)
    rw [List.map_append]; exact r1
theorem wpListIn_bysS {F : Fence} {n : Nat} {ops : Array Oper} {rest : List Oper} {o : Oper} {a : Act} {w : World} {Q : Exit → Act → World → Prop} (hgd : Region.wanted o (yielded ops a.tmps) = true) (s x : Operand)
    (ho : o.op = .call { callee := .builtin .append, args := #[s, x], argTypes := #[69, 9] })
    (b cap k : Nat) (xs : List Int) (hk : xs.length = k) (hs : a.eval s = .slice (some ⟨b, 0, none⟩) k cap) (hi : Bys w b b cap xs)
    (hx : a.eval x = .string ⟨#[124]⟩) (hr : k + 1 ≤ cap)
    (h : ∀ w', Bys w' b b cap (xs ++ [124]) → w.grownBy w' (some b) → wpListIn F n Tryd.prog ops Q rest (a.put o.dst (.slice (some ⟨b, 0, none⟩) ((k + 1 : Nat)) cap)) w') : wpListIn F n Tryd.prog ops Q (o :: rest) a w := by
  obtain ⟨i0, hi0, hz0, hz1, hz2⟩ := info_parts info8
  obtain ⟨h1, h2, h3, cur, hown, hsz, htk⟩ := hi
  rw [hk] at htk h2
  have hr' := Lib.run_append_room_stringF (P := Tryd.prog) w 69 9 o.type 5 i0 Tryd.underlying69 Tryd.underlying9 hi0 hz1 b k cap cur (0, 0) hown (Nat.zero_le _) ⟨#[124]⟩ hr (by rw [hsz]; exact hr)
  refine wpListIn_wanted hgd fun K hK => ?_
  unfold Oper.wpIn
  refine ⟨?_, ?_⟩
  · simp [Oper.about, ho, resolve, Target.leads, Sem.run_pure]
  · rw [Oper.semAt_plain F _ _ (by rw [ho]; intro c hc'; cases hc')]
    simp [execOp, ho, resolve, invoke, builtin, hs, hx, hr', Result.andThen]
    have e1 : Lib.strCells ⟨#[124]⟩ = [Value.int .u8 124] := rfl
    have e3 : (⟨#[124]⟩ : ByteArray).size = 1 := rfl
    refine hK _ _ (h _ ⟨h1, by rw [List.length_append, hk]; exact hr, h3, _, Own.row hown _, ?_, ?_⟩ ⟨rfl, rfl, rfl, by simp [World.setRow], fun j _ hj => ?_⟩)
    · rw [e1, e3]; simp; omega
    · rw [e1, htk, List.map_append, List.map_cons, List.map_nil]
      simp only [List.append_assoc]
      rw [← List.append_assoc]
      exact List.take_left' (by simp)
    · simp only [World.setRow, Array.getElem?_modify]
      rw [if_neg (fun e => hj (by rw [e]))]
theorem bysConvX {w : World} {base g cap n : Nat} {xs : List Int} (hI : Bys w base g cap xs) (hn : xs.length = n) :
    (convert 69 9 (.slice (some ⟨g, 0, none⟩) n cap)).run Tryd.prog w = .ok (.string (strOfNums xs)) w := by
  obtain ⟨_, _, _, cur, hcur, hcs, hct⟩ := hI
  exact run_convert_bytes_arg w 69 5 Tryd.underlying69 Tryd.underlying5 g 0 n cap xs hn
    (fun i hi => by
      rw [Nat.zero_add, hcur.cell]
      have e : (cur.toList.take xs.length)[i]? = (xs.map (Value.int .u8))[i]? := by rw [hct]
      rw [List.getElem?_take_of_lt (by rw [hn]; exact hi)] at e
      simpa [show i < xs.length by rw [hn]; exact hi] using e) 9 Tryd.underlying9
theorem yieldAny {F : Fence} (hd : F.depth = none) {m : Nat} (m' : Nat) {P : Program} {l : Nat} {args : Array Value} {W : World} {R : Ending → World → Prop} (h : YieldAt F m P l args W R) : YieldAt F m' P l args W R := by
  obtain ⟨fn, tmps, assign, body, hy, h1, h2⟩ := h
  exact ⟨fn, tmps, assign, body, hy, h1, fun c cs _ => h2 c cs (fun d hh => by rw [hd] at hh; cases hh)⟩
/-- A half diagram as a value. -/
def hval (x : List UInt8) : Value := .string ⟨x.toArray⟩
def ExtPost (J : List (List UInt8) → World → Prop) (b B0 n : Nat) (done L : List (List UInt8)) (pre : List UInt8) (W : World) (e : Ending) (W' : World) : Prop :=
  e = .returned (.bool true) ∧ J (done ++ L) W' ∧ Bys W' b b n (MI pre) ∧ Below B0 W W' ∧ b < W'.heap.size
set_option maxRecDepth 100000 in
set_option maxHeartbeats 4000000 in
theorem ext_in (F : Fence) (hd : F.depth = none) (hf : F.fn 50) (hro : F.round = none) (l b B0 n : Nat) (hB0 : B0 ≤ b) (hn : n ≤ 100) (LL : List (List UInt8)) (J : List (List UInt8) → World → Prop)
    (hJ : ∀ pre A B row, J pre A → A.grownBy B row → (∀ r, row = some r → r = b) → J pre B)
    (hY : ∀ m pre x rest W1, LL = pre ++ x :: rest → J pre W1 → b < W1.heap.size → YieldAt F m Tryd.prog l #[hval x] W1 fun e W' =>
      e = .returned (.bool true) ∧ J (pre ++ [x]) W' ∧ W'.heap[b]? = W1.heap[b]? ∧ W1.heap.size ≤ W'.heap.size ∧ Below B0 W1 W') (r : Nat) :
    ∀ (bk o : Nat) (pre : List UInt8) (dn rest : List (List UInt8)) (m k : Nat) (W : World), Bys W b b n (MI pre) → pre.length = k → k + r = n → bk ≤ k → o ≤ 100 → LL = dn ++ exH r bk o pre ++ rest → J dn W →
      CallsIn F m Tryd.prog 50 #[.slice (some ⟨b, 0, none⟩) k n, .int .i64 bk, .int .i64 o, .int .i64 r, .func (.yield l) #[] #[]] W (ExtPost J b B0 n dn (exH r bk o pre) pre W) := by
  have hdd : ∀ k : Nat, (F.depth.isSome = true → 1 ≤ k) := fun k h => by rw [hd] at h; cases h
  induction r with
  | zero =>
    intro bk o pre dn rest m k W hI hk hkr hbk ho hL hJd
    have hcv := bysConvX hI (show (MI pre).length = k by rw [MI_len, hk])
    rw [MI_str] at hcv
    obtain ⟨fn, tmps, assign, body, hy, hR⟩ := hY (m - 1) dn pre rest W (by rw [hL, exH_zero]; simp) hJd hI.lt
    unfold hval at hy
    have hI' := Lib.hid hI
    clear hL hI hJ hY
    refine callsIn_of_wp Tryd.func50 rfl hf ?_ hro
    simp only [Tryd.ntmps50, List.size_toArray, List.length_cons, List.length_nil, Nat.reduceAdd, Nat.reduceSub, Array.replicate_succ, Array.replicate_zero, List.push_toArray, List.append_toArray, List.nil_append, List.cons_append]
    gi_wp2_with (first
      | ((try refine ⟨hdd _, ?_⟩); refine hR.mono ?_; clear hR; rintro e W2 ⟨rfl, hJ2, hs2, hz2, hb2⟩))
    go_ret
    refine ⟨rfl, by rw [exH_zero]; exact hJ2, ?_, hb2, by have := hI'.out.lt; omega⟩
    obtain ⟨i1, i2, i3, cur, i4, i5, i6⟩ := hI'.out
    exact ⟨i1, i2, i3, cur, hs2.trans i4, i5, i6⟩
  | succ r ih =>
    intro bk o pre dn rest m k W hI hk hkr hbk ho hL hJd
    by_cases h1 : bk + o < r + 1
    · cases bk with
      | succ bk' =>
        obtain ⟨A, hA⟩ : ∃ A, exH r ((bk' + 1) + 1) o (pre ++ [40]) = A := ⟨_, rfl⟩
        have e0 : exH (r + 1) (bk' + 1) o pre = A ++ exH r bk' o (pre ++ [41]) := by
          rw [exH_step, if_pos h1, hA]
          rw [if_pos (by omega)]; rfl
        obtain ⟨C, hC⟩ : ∃ C : List (List UInt8), exH r bk' o (pre ++ [41]) = C := ⟨_, rfl⟩
        rw [hC] at e0
        rw [e0] at hL ⊢
        have i1 : ∀ W1, Bys W1 b b n (MI (pre ++ [40])) → J dn W1 → CallsIn F (m - 1) Tryd.prog 50 #[.slice (some ⟨b, 0, none⟩) (k + 1 : Nat) n, .int .i64 ((bk' : Int) + 1 + 1), .int .i64 (o : Int), .int .i64 r, .func (.yield l) #[] #[]] W1 (ExtPost J b B0 n dn A (pre ++ [40]) W1) := fun W1 hB hj => by
          have := ih ((bk' + 1) + 1) o (pre ++ [40]) dn (C ++ rest) (m - 1) (k + 1) W1 hB (by simp [hk]) (by omega) (by omega) (by omega) (by rw [hL, hA]; simp [List.append_assoc]) hj
          rw [hA] at this; exact this
        have i1 := Lib.hid i1
        have i2 : ∀ W1, Bys W1 b b n (MI (pre ++ [41])) → J (dn ++ A) W1 → CallsIn F (m - 1) Tryd.prog 50 #[.slice (some ⟨b, 0, none⟩) (k + 1 : Nat) n, .int .i64 bk', .int .i64 o, .int .i64 r, .func (.yield l) #[] #[]] W1 (ExtPost J b B0 n (dn ++ A) C (pre ++ [41]) W1) := fun W1 hB hj => by
          have := ih bk' o (pre ++ [41]) (dn ++ A) rest (m - 1) (k + 1) W1 hB (by simp [hk]) (by omega) (by omega) (by omega) (by rw [hL, hC]; simp [List.append_assoc]) hj
          rw [hC] at this; exact this
        have i2 := Lib.hid i2
        have HI := Lib.hid hI
        have hlt := hI.lt
        have hml := Lib.hid (show (MI pre).length = k by rw [MI_len, hk])
        have m40 := Lib.hid (show MI pre ++ [40] = MI (pre ++ [40]) by rw [MI_app]; rfl)
        have m2 := Lib.hid (show MI pre ++ [41] = MI (pre ++ [41]) by rw [MI_app]; rfl)
        have HJ := Lib.hid hJ
        have j1 : ((bk' : Int) + 1) + (o : Int) < (r : Int) + 1 := by omega
        have jb : (0 : Int) < (bk' : Int) + 1 := by omega
        have jr : (((r : Int) + 1) == 0) = false := by simp; omega
        have hkn : k + 1 ≤ n := by omega
        have hJd' := Lib.hid hJd
        clear hL e0 hC ih hY hJ hI hJd hA
        refine callsIn_of_wp Tryd.func50 rfl hf ?_ hro
        simp only [Tryd.ntmps50, List.size_toArray, List.length_cons, List.length_nil, Nat.reduceAdd, Nat.reduceSub, Array.replicate_succ, Array.replicate_zero, List.push_toArray, List.append_toArray, List.nil_append, List.cons_append]
        gi_wp2_with (first
          | (refine wpListIn_bys1 rfl (.tmp 23) (.tmp 24) rfl b n k (MI pre) 40 hml.out rfl (HI.out.alloc _) ⟨W.heap.size, 0, none⟩ 1 rfl ((Own.new _ _ _).cell 0) hkn ?_; intro W2 hI2 hG2; rw [m40.out] at hI2; have hJ2 := HJ.out _ _ _ _ (HJ.out _ _ _ _ hJd'.out (World.grownBy_alloc W (.cells #[Value.int .u8 40] 5) none) (fun r e => by cases e)) hG2 (fun r e => by cases e; rfl); have hB2 : Below B0 W W2 := ((Below.refl B0 W).alloc (by omega) _).grown hG2 (by simp; omega) (fun k e => by cases e; omega))
          | ((try refine ⟨hdd _, ?_⟩); gi_at_call 50; refine (i1.out W2 hI2 hJ2).mono ?_; clear i1; rintro e W3 ⟨rfl, hJ3, hI3, hB3, hl3⟩; have hI3b : Bys W3 b b n (MI pre) := Bys.pop (x := 40) (by rw [m40.out]; exact hI3); have hB03 := hB2.trans hB3)
          | (refine wpListIn_bys1 rfl (.tmp 37) (.tmp 38) rfl b n k (MI pre) 41 hml.out rfl (hI3b.alloc _) ⟨W3.heap.size, 0, none⟩ 1 rfl ((Own.new _ _ _).cell 0) hkn ?_; intro W4 hI4 hG4; rw [m2.out] at hI4; have hJ4 := HJ.out _ _ _ _ (HJ.out _ _ _ _ hJ3 (World.grownBy_alloc W3 (.cells #[Value.int .u8 41] 5) none) (fun r e => by cases e)) hG4 (fun r e => by cases e; rfl); have hB4 : Below B0 W W4 := (hB03.alloc (by omega) _).grown hG4 (by simp; omega) (fun k e => by cases e; omega))
          | ((try refine ⟨hdd _, ?_⟩); gi_at_call 50; refine (i2.out W4 hI4 hJ4).mono ?_; clear i2; rintro e W5 ⟨rfl, hJ5, hI5, hB5, hl5⟩; have hI5b : Bys W5 b b n (MI pre) := Bys.pop (x := 41) (by rw [m2.out]; exact hI5)))
        go_ret
        exact ⟨rfl, by rw [← List.append_assoc]; exact hJ5, hI5b, hB4.trans hB5, hl5⟩
      | zero =>
        cases o with
        | zero =>
          obtain ⟨A, hA⟩ : ∃ A, exH r (0 + 1) 0 (pre ++ [40]) = A := ⟨_, rfl⟩
          have e0 : exH (r + 1) 0 0 pre = A ++ [] := by
            rw [exH_step, if_pos h1, hA]
            rw [if_neg (by omega), if_pos rfl]
          obtain ⟨C, hC⟩ : ∃ C : List (List UInt8), [] = C := ⟨_, rfl⟩
          rw [hC] at e0
          rw [e0] at hL ⊢
          have i1 : ∀ W1, Bys W1 b b n (MI (pre ++ [40])) → J dn W1 → CallsIn F (m - 1) Tryd.prog 50 #[.slice (some ⟨b, 0, none⟩) (k + 1 : Nat) n, .int .i64 1, .int .i64 0, .int .i64 r, .func (.yield l) #[] #[]] W1 (ExtPost J b B0 n dn A (pre ++ [40]) W1) := fun W1 hB hj => by
            have := ih (0 + 1) 0 (pre ++ [40]) dn (C ++ rest) (m - 1) (k + 1) W1 hB (by simp [hk]) (by omega) (by omega) (by omega) (by rw [hL, hA]; simp [List.append_assoc]) hj
            rw [hA] at this; exact this
          have i1 := Lib.hid i1
          have hC2 := hC.symm
          have HI := Lib.hid hI
          have hlt := hI.lt
          have hml := Lib.hid (show (MI pre).length = k by rw [MI_len, hk])
          have m40 := Lib.hid (show MI pre ++ [40] = MI (pre ++ [40]) by rw [MI_app]; rfl)
          have HJ := Lib.hid hJ
          have j1 : 0 + 0 < (r : Int) + 1 := by omega
          have jb : ¬ (0 : Int) < 0 := by omega
          have jr : (((r : Int) + 1) == 0) = false := by simp; omega
          have hkn : k + 1 ≤ n := by omega
          have hJd' := Lib.hid hJd
          clear hL e0 hC ih hY hJ hI hJd hA
          refine callsIn_of_wp Tryd.func50 rfl hf ?_ hro
          simp only [Tryd.ntmps50, List.size_toArray, List.length_cons, List.length_nil, Nat.reduceAdd, Nat.reduceSub, Array.replicate_succ, Array.replicate_zero, List.push_toArray, List.append_toArray, List.nil_append, List.cons_append]
          gi_wp2_with (first
            | (refine wpListIn_bys1 rfl (.tmp 23) (.tmp 24) rfl b n k (MI pre) 40 hml.out rfl (HI.out.alloc _) ⟨W.heap.size, 0, none⟩ 1 rfl ((Own.new _ _ _).cell 0) hkn ?_; intro W2 hI2 hG2; rw [m40.out] at hI2; have hJ2 := HJ.out _ _ _ _ (HJ.out _ _ _ _ hJd'.out (World.grownBy_alloc W (.cells #[Value.int .u8 40] 5) none) (fun r e => by cases e)) hG2 (fun r e => by cases e; rfl); have hB2 : Below B0 W W2 := ((Below.refl B0 W).alloc (by omega) _).grown hG2 (by simp; omega) (fun k e => by cases e; omega))
            | ((try refine ⟨hdd _, ?_⟩); gi_at_call 50; refine (i1.out W2 hI2 hJ2).mono ?_; clear i1; rintro e W3 ⟨rfl, hJ3, hI3, hB3, hl3⟩; have hI3b : Bys W3 b b n (MI pre) := Bys.pop (x := 40) (by rw [m40.out]; exact hI3); have hB03 := hB2.trans hB3))
          go_ret
          exact ⟨rfl, by subst hC2; rw [List.append_nil]; exact hJ3, hI3b, hB03, hl3⟩
        | succ o' =>
          obtain ⟨A, hA⟩ : ∃ A, exH r (0 + 1) (o' + 1) (pre ++ [40]) = A := ⟨_, rfl⟩
          have e0 : exH (r + 1) 0 (o' + 1) pre = A ++ exH r 0 o' (pre ++ [124]) := by
            rw [exH_step, if_pos h1, hA]
            rw [if_neg (by omega), if_neg (by omega)]; rfl
          obtain ⟨C, hC⟩ : ∃ C : List (List UInt8), exH r 0 o' (pre ++ [124]) = C := ⟨_, rfl⟩
          rw [hC] at e0
          rw [e0] at hL ⊢
          have i1 : ∀ W1, Bys W1 b b n (MI (pre ++ [40])) → J dn W1 → CallsIn F (m - 1) Tryd.prog 50 #[.slice (some ⟨b, 0, none⟩) (k + 1 : Nat) n, .int .i64 1, .int .i64 ((o' : Int) + 1), .int .i64 r, .func (.yield l) #[] #[]] W1 (ExtPost J b B0 n dn A (pre ++ [40]) W1) := fun W1 hB hj => by
            have := ih (0 + 1) (o' + 1) (pre ++ [40]) dn (C ++ rest) (m - 1) (k + 1) W1 hB (by simp [hk]) (by omega) (by omega) (by omega) (by rw [hL, hA]; simp [List.append_assoc]) hj
            rw [hA] at this; exact this
          have i1 := Lib.hid i1
          have i2 : ∀ W1, Bys W1 b b n (MI (pre ++ [124])) → J (dn ++ A) W1 → CallsIn F (m - 1) Tryd.prog 50 #[.slice (some ⟨b, 0, none⟩) (k + 1 : Nat) n, .int .i64 0, .int .i64 o', .int .i64 r, .func (.yield l) #[] #[]] W1 (ExtPost J b B0 n (dn ++ A) C (pre ++ [124]) W1) := fun W1 hB hj => by
            have := ih 0 o' (pre ++ [124]) (dn ++ A) rest (m - 1) (k + 1) W1 hB (by simp [hk]) (by omega) (by omega) (by omega) (by rw [hL, hC]; simp [List.append_assoc]) hj
            rw [hC] at this; exact this
          have i2 := Lib.hid i2
          have HI := Lib.hid hI
          have hlt := hI.lt
          have hml := Lib.hid (show (MI pre).length = k by rw [MI_len, hk])
          have m40 := Lib.hid (show MI pre ++ [40] = MI (pre ++ [40]) by rw [MI_app]; rfl)
          have m2 := Lib.hid (show MI pre ++ [124] = MI (pre ++ [124]) by rw [MI_app]; rfl)
          have HJ := Lib.hid hJ
          have j1 : 0 + ((o' : Int) + 1) < (r : Int) + 1 := by omega
          have jb : ¬ (0 : Int) < 0 := by omega
          have jo : (((o' : Int) + 1) == 0) = false := by simp; omega
          have jr : (((r : Int) + 1) == 0) = false := by simp; omega
          have hkn : k + 1 ≤ n := by omega
          have hJd' := Lib.hid hJd
          clear hL e0 hC ih hY hJ hI hJd hA
          refine callsIn_of_wp Tryd.func50 rfl hf ?_ hro
          simp only [Tryd.ntmps50, List.size_toArray, List.length_cons, List.length_nil, Nat.reduceAdd, Nat.reduceSub, Array.replicate_succ, Array.replicate_zero, List.push_toArray, List.append_toArray, List.nil_append, List.cons_append]
          gi_wp2_with (first
            | (refine wpListIn_bys1 rfl (.tmp 23) (.tmp 24) rfl b n k (MI pre) 40 hml.out rfl (HI.out.alloc _) ⟨W.heap.size, 0, none⟩ 1 rfl ((Own.new _ _ _).cell 0) hkn ?_; intro W2 hI2 hG2; rw [m40.out] at hI2; have hJ2 := HJ.out _ _ _ _ (HJ.out _ _ _ _ hJd'.out (World.grownBy_alloc W (.cells #[Value.int .u8 40] 5) none) (fun r e => by cases e)) hG2 (fun r e => by cases e; rfl); have hB2 : Below B0 W W2 := ((Below.refl B0 W).alloc (by omega) _).grown hG2 (by simp; omega) (fun k e => by cases e; omega))
            | ((try refine ⟨hdd _, ?_⟩); gi_at_call 50; refine (i1.out W2 hI2 hJ2).mono ?_; clear i1; rintro e W3 ⟨rfl, hJ3, hI3, hB3, hl3⟩; have hI3b : Bys W3 b b n (MI pre) := Bys.pop (x := 40) (by rw [m40.out]; exact hI3); have hB03 := hB2.trans hB3)
            | (refine wpListIn_bysS rfl (.tmp 50) (.const (.string ⟨#[124]⟩)) rfl b n k (MI pre) hml.out rfl hI3b rfl hkn ?_; intro W4 hI4 hG4; rw [m2.out] at hI4; have hJ4 := HJ.out _ _ _ _ hJ3 hG4 (fun r e => by cases e; rfl); have hB4 : Below B0 W W4 := hB03.grown hG4 (by omega) (fun k e => by cases e; omega))
            | ((try refine ⟨hdd _, ?_⟩); gi_at_call 50; refine (i2.out W4 hI4 hJ4).mono ?_; clear i2; rintro e W5 ⟨rfl, hJ5, hI5, hB5, hl5⟩; have hI5b : Bys W5 b b n (MI pre) := Bys.pop (x := 124) (by rw [m2.out]; exact hI5)))
          go_ret
          exact ⟨rfl, by rw [← List.append_assoc]; exact hJ5, hI5b, hB4.trans hB5, hl5⟩
    · cases bk with
      | succ bk' =>
        have e0 : exH (r + 1) (bk' + 1) o pre = [] ++ exH r bk' o (pre ++ [41]) := by
          rw [exH_step, if_neg h1]
          rw [if_pos (by omega)]; rfl
        obtain ⟨C, hC⟩ : ∃ C : List (List UInt8), exH r bk' o (pre ++ [41]) = C := ⟨_, rfl⟩
        rw [hC] at e0
        rw [e0] at hL ⊢
        have i2 : ∀ W1, Bys W1 b b n (MI (pre ++ [41])) → J dn W1 → CallsIn F (m - 1) Tryd.prog 50 #[.slice (some ⟨b, 0, none⟩) (k + 1 : Nat) n, .int .i64 bk', .int .i64 o, .int .i64 r, .func (.yield l) #[] #[]] W1 (ExtPost J b B0 n dn C (pre ++ [41]) W1) := fun W1 hB hj => by
          have := ih bk' o (pre ++ [41]) dn rest (m - 1) (k + 1) W1 hB (by simp [hk]) (by omega) (by omega) (by omega) (by rw [hL, hC]; simp [List.append_assoc]) hj
          rw [hC] at this; exact this
        have i2 := Lib.hid i2
        have HI := Lib.hid hI
        have hlt := hI.lt
        have hml := Lib.hid (show (MI pre).length = k by rw [MI_len, hk])
        have m2 := Lib.hid (show MI pre ++ [41] = MI (pre ++ [41]) by rw [MI_app]; rfl)
        have HJ := Lib.hid hJ
        have j1 : ¬ ((bk' : Int) + 1) + (o : Int) < (r : Int) + 1 := by omega
        have jb : (0 : Int) < (bk' : Int) + 1 := by omega
        have jr : (((r : Int) + 1) == 0) = false := by simp; omega
        have hkn : k + 1 ≤ n := by omega
        have hJd' := Lib.hid hJd
        clear hL e0 hC ih hY hJ hI hJd
        refine callsIn_of_wp Tryd.func50 rfl hf ?_ hro
        simp only [Tryd.ntmps50, List.size_toArray, List.length_cons, List.length_nil, Nat.reduceAdd, Nat.reduceSub, Array.replicate_succ, Array.replicate_zero, List.push_toArray, List.append_toArray, List.nil_append, List.cons_append]
        gi_wp2_with (first
          | (refine wpListIn_bys1 rfl (.tmp 37) (.tmp 38) rfl b n k (MI pre) 41 hml.out rfl (HI.out.alloc _) ⟨W.heap.size, 0, none⟩ 1 rfl ((Own.new _ _ _).cell 0) hkn ?_; intro W4 hI4 hG4; rw [m2.out] at hI4; have hJ4 := HJ.out _ _ _ _ (HJ.out _ _ _ _ hJd'.out (World.grownBy_alloc W (.cells #[Value.int .u8 41] 5) none) (fun r e => by cases e)) hG4 (fun r e => by cases e; rfl); have hB4 : Below B0 W W4 := ((Below.refl B0 W).alloc (by omega) _).grown hG4 (by simp; omega) (fun k e => by cases e; omega))
          | ((try refine ⟨hdd _, ?_⟩); gi_at_call 50; refine (i2.out W4 hI4 hJ4).mono ?_; clear i2; rintro e W5 ⟨rfl, hJ5, hI5, hB5, hl5⟩; have hI5b : Bys W5 b b n (MI pre) := Bys.pop (x := 41) (by rw [m2.out]; exact hI5)))
        go_ret
        exact ⟨rfl, by exact hJ5, hI5b, hB4.trans hB5, hl5⟩
      | zero =>
        cases o with
        | zero =>
          exact absurd (show 0 + 0 < r + 1 by omega) h1
        | succ o' =>
          have e0 : exH (r + 1) 0 (o' + 1) pre = [] ++ exH r 0 o' (pre ++ [124]) := by
            rw [exH_step, if_neg h1]
            rw [if_neg (by omega), if_neg (by omega)]; rfl
          obtain ⟨C, hC⟩ : ∃ C : List (List UInt8), exH r 0 o' (pre ++ [124]) = C := ⟨_, rfl⟩
          rw [hC] at e0
          rw [e0] at hL ⊢
          have i2 : ∀ W1, Bys W1 b b n (MI (pre ++ [124])) → J dn W1 → CallsIn F (m - 1) Tryd.prog 50 #[.slice (some ⟨b, 0, none⟩) (k + 1 : Nat) n, .int .i64 0, .int .i64 o', .int .i64 r, .func (.yield l) #[] #[]] W1 (ExtPost J b B0 n dn C (pre ++ [124]) W1) := fun W1 hB hj => by
            have := ih 0 o' (pre ++ [124]) dn rest (m - 1) (k + 1) W1 hB (by simp [hk]) (by omega) (by omega) (by omega) (by rw [hL, hC]; simp [List.append_assoc]) hj
            rw [hC] at this; exact this
          have i2 := Lib.hid i2
          have HI := Lib.hid hI
          have hlt := hI.lt
          have hml := Lib.hid (show (MI pre).length = k by rw [MI_len, hk])
          have m2 := Lib.hid (show MI pre ++ [124] = MI (pre ++ [124]) by rw [MI_app]; rfl)
          have HJ := Lib.hid hJ
          have j1 : ¬ 0 + ((o' : Int) + 1) < (r : Int) + 1 := by omega
          have jb : ¬ (0 : Int) < 0 := by omega
          have jo : (((o' : Int) + 1) == 0) = false := by simp; omega
          have jr : (((r : Int) + 1) == 0) = false := by simp; omega
          have hkn : k + 1 ≤ n := by omega
          have hJd' := Lib.hid hJd
          clear hL e0 hC ih hY hJ hI hJd
          refine callsIn_of_wp Tryd.func50 rfl hf ?_ hro
          simp only [Tryd.ntmps50, List.size_toArray, List.length_cons, List.length_nil, Nat.reduceAdd, Nat.reduceSub, Array.replicate_succ, Array.replicate_zero, List.push_toArray, List.append_toArray, List.nil_append, List.cons_append]
          gi_wp2_with (first
            | (refine wpListIn_bysS rfl (.tmp 50) (.const (.string ⟨#[124]⟩)) rfl b n k (MI pre) hml.out rfl HI.out rfl hkn ?_; intro W4 hI4 hG4; rw [m2.out] at hI4; have hJ4 := HJ.out _ _ _ _ hJd'.out hG4 (fun r e => by cases e; rfl); have hB4 : Below B0 W W4 := (Below.refl B0 W).grown hG4 (by omega) (fun k e => by cases e; omega))
            | ((try refine ⟨hdd _, ?_⟩); gi_at_call 50; refine (i2.out W4 hI4 hJ4).mono ?_; clear i2; rintro e W5 ⟨rfl, hJ5, hI5, hB5, hl5⟩; have hI5b : Bys W5 b b n (MI pre) := Bys.pop (x := 124) (by rw [m2.out]; exact hI5)))
          go_ret
          exact ⟨rfl, by exact hJ5, hI5b, hB4.trans hB5, hl5⟩
end Go.Proofs.YtopenojociafaaaDoor
namespace Go.Proofs.YtopenojociafaaaDoor
open Go.RowKit Go.Shelf
attribute [local go_sem] Oper.semAt_some
set_option linter.unusedVariables false
set_option linter.unusedSimpArgs false
theorem made8c (n : Nat) : madeCells #[Value.int .u8 0] n = mcells (List.replicate n 0) := by
  apply Array.toList_inj.1
  unfold madeCells mcells
  simp only [Array.toList_map, Array.toList_range, List.map_replicate]
  apply List.ext_getElem?
  intro i
  rw [List.getElem?_map, List.getElem?_replicate]
  by_cases h : i < n
  · rw [List.getElem?_range h, if_pos h]
    simp [Nat.mod_one]
  · rw [if_neg h, List.getElem?_eq_none (by simpa using h)]; rfl
theorem makeU0 (n : Nat) (hn : n ≤ 1048576) : ∀ w : World, (Instr.makeSlice 69 (.int .i64 0) (.int .i64 n)).run Tryd.prog w = .ok (.slice (some ⟨w.heap.size, 0, none⟩) 0 n) (w.alloc (.cells (mcells (List.replicate n 0)) 5)) := by
  intro w
  obtain ⟨i0, hi0, hz0, hz1, hz2⟩ := info_parts info8
  have := run_make w 69 5 i0 (.int .u8 0) Tryd.underlying69 hi0 hz0 .i64 .i64 (0 : Int) (n : Int) (by omega) (by omega) (by rw [hz2]; omega) (by omega)
  rw [this, hz1]
  simp only [Int.toNat_natCast, Nat.mul_one]
  rw [← made8c]
  rfl
theorem grown_drew (W : World) : W.grownBy W.drew none := ⟨rfl, rfl, rfl, Nat.le_refl _, fun _ _ _ => rfl⟩
set_option maxRecDepth 100000 in
set_option maxHeartbeats 4000000 in
theorem sea_made (F : Fence) (hd : F.depth = none) (hf : F.fn 49) (hf2 : F.fn 50) (hro : F.round = none) (n : Nat) (bn bo N o : Nat) (hN : N ≤ 100) (ho : o ≤ 100) (w : World)
    (h1 : bn < w.heap.size) (h2 : bo < w.heap.size) (c1 : w.cell? ⟨bn, 0, none⟩ = some (.int .i64 N)) (c2 : w.cell? ⟨bo, 0, none⟩ = some (.int .i64 o)) :
    SeqMade F n Tryd.prog 49 #[.pointer (some ⟨bn, 0, none⟩), .pointer (some ⟨bo, 0, none⟩)] (fun x => #[hval x]) (allH N o) w := by
  intro l B0 J W hW hB0 hJ hY h0
  have hdd : ∀ k : Nat, (F.depth.isSome = true → 1 ≤ k) := fun k h => by rw [hd] at h; cases h
  have d1 : W.cell? ⟨bn, 0, none⟩ = some (.int .i64 N) := (hW.cell (p := ⟨bn, 0, none⟩) h1).trans c1
  have d2 : W.cell? ⟨bo, 0, none⟩ = some (.int .i64 o) := (hW.cell (p := ⟨bo, 0, none⟩) h2).trans c2
  have s1 := Nat.lt_of_lt_of_le h1 hW.size
  have s2 := Nat.lt_of_lt_of_le h2 hW.size
  have e1 : (W.alloc (.cells (mcells (List.replicate N 0)) 5)).cell? ⟨bn, 0, none⟩ = some (.int .i64 N) := by
    rw [((Below.refl W.heap.size W).alloc (Nat.le_refl _) _).cell (p := ⟨bn, 0, none⟩) s1]; exact d1
  have e2 : (W.alloc (.cells (mcells (List.replicate N 0)) 5)).cell? ⟨bo, 0, none⟩ = some (.int .i64 o) := by
    rw [((Below.refl W.heap.size W).alloc (Nat.le_refl _) _).cell (p := ⟨bo, 0, none⟩) s2]; exact d2
  have hmk := makeU0 N (by omega)
  have hI : Bys (W.alloc (.cells (mcells (List.replicate N 0)) 5)) W.heap.size W.heap.size N (MI []) := Bys.new _ _ _ _ (Nat.le_refl _) rfl (by unfold maxLen; omega) _ (by rw [mcells_size]; simp)
  have hJ0 : J [] (W.alloc (.cells (mcells (List.replicate N 0)) 5)) := hJ _ _ _ none h0 (World.grownBy_alloc _ _ _) (fun r e => by cases e)
  have hE := Lib.hid (show ∀ W1, Bys W1 W.heap.size W.heap.size N (MI []) → J [] W1 → CallsIn F (n - 1) Tryd.prog 50 #[.slice (some ⟨W.heap.size, 0, none⟩) (0 : Nat) N, .int .i64 0, .int .i64 o, .int .i64 N, .func (.yield l) #[] #[]] W1 (ExtPost J W.heap.size B0 N [] (allH N o) [] W1) from fun W1 hB hj =>
    ext_in F hd hf2 hro l W.heap.size B0 N hB0 hN (allH N o) J hJ (fun m pre x rest W2 hL hj2 hs => yieldAny hd m (hY pre x rest W2 hL hj2 hs)) N 0 o [] [] [] (n - 1) 0 W1 hB rfl (by omega) (Nat.le_refl _) ho (by simp [allH]) hj)
  have HI := Lib.hid hI
  have HJ0 := Lib.hid hJ0
  have HJ := Lib.hid hJ
  clear hI hJ0 hY h0 hJ
  refine callsIn_of_wp Tryd.func49 rfl hf ?_ hro
  simp only [Tryd.ntmps49, List.size_toArray, List.length_cons, List.length_nil, Nat.reduceAdd, Nat.reduceSub, Array.replicate_succ, Array.replicate_zero, List.push_toArray, List.append_toArray, List.nil_append, List.cons_append]
  gi_region_with (first
    | ((try refine ⟨hdd _, ?_⟩); gi_at_call 50; refine (hE.out _ ?_ ?_).mono ?_; (focus exact HI.out); (focus exact HJ.out _ _ _ none HJ0.out (grown_drew _) (fun r e => by cases e)); rintro e W2 ⟨rfl, hJ2, hI2, hB2, hl2⟩))
  all_goals
    go_end0
    exact ⟨⟨_, rfl⟩, by simpa using hJ2, (((Below.refl B0 W).alloc hB0 _).drew).trans hB2⟩
end Go.Proofs.YtopenojociafaaaDoor
namespace Go.Proofs.YtopenojociafaaaDoor
open Go.RowKit
set_option linter.unusedVariables false
set_option linter.unusedSimpArgs false
/-- n over i, as the model counts it. -/
def ovr (n : Nat) : Nat → Int
  | 0 => 1
  | i + 1 => ovr n i * ((n : Int) - i) / ((i : Int) + 1)
def lss (n : Nat) : Nat → Int
  | 0 => 0
  | i + 1 => ovr n i
theorem ovr_bd (n : Nat) (hn : n ≤ 8) (i : Nat) (hi : i ≤ 4) : 0 ≤ ovr n i ∧ ovr n i ≤ 100 := by
  have h : ∀ n, n < 9 → ∀ i, i < 5 → 0 ≤ ovr n i ∧ ovr n i ≤ 100 := by decide +kernel
  exact h n (by omega) i (by omega)
theorem lss_bd (n : Nat) (hn : n ≤ 8) (i : Nat) (hi : i ≤ 4) : 0 ≤ lss n i ∧ lss n i ≤ 100 := by
  cases i with
  | zero => simp [lss]
  | succ i => exact ovr_bd n hn i (by omega)
theorem allH_count (n k : Nat) (h1 : 1 ≤ n) (h8 : n ≤ 8) (hk : k ≤ n) (he : (n - k) % 2 = 0) : ((allH n k).length : Int) = ovr n ((n - k) / 2) - lss n ((n - k) / 2) := by
  have h : ∀ n, n < 9 → ∀ k, k < 9 → 1 ≤ n → k ≤ n → (n - k) % 2 = 0 → ((allH n k).length : Int) = ovr n ((n - k) / 2) - lss n ((n - k) / 2) := by decide +kernel
  exact h n (by omega) k (by omega) h1 hk he
theorem allH_small (n k : Nat) (h1 : 1 ≤ n) (h8 : n ≤ 12) (hk : k ≤ n) (he : (n - k) % 2 = 0) : (allH n k).length ≤ 1000 := by
  have h : ∀ n, n < 13 → ∀ k, k < 13 → 1 ≤ n → k ≤ n → (n - k) % 2 = 0 → (allH n k).length ≤ 1000 := by decide +kernel
  exact h n (by omega) k (by omega) h1 hk he
/-- The sizes of cells. -/
def CellOk (n k m : Int) : Prop := (1 ≤ n ∧ n ≤ m) ∧ 0 ≤ k ∧ k ≤ n ∧ (n - k) % 2 = 0
set_option maxRecDepth 100000 in
theorem cellI_t (n k : Int) (w : World) (h : CellOk n k 8) : Calls Tryd.prog 22 #[.int .i64 n, .int .i64 k] w fun e w' => e = .returned (.bool true) ∧ w = w' := by
  obtain ⟨⟨h1, h2⟩, h3, h4, h5⟩ := h
  have h6 : (((n - k) % 2) == 0) = true := by simpa using h5
  have h7 : ((n - k).tmod 2 == 0) = true := by rw [Int.tmod_eq_emod_of_nonneg (by omega)]; exact h6
  clear h5
  go_enter Tryd.func22, Tryd.ntmps22
  go_wp2_with (first
    | (go_at_call 47; ((with_reducible refine (isSize_t n _ h1 h2).mono ?_); rintro e w0 ⟨rfl, rfl⟩)))
  go_ret
  exact ⟨rfl, rfl⟩
set_option maxRecDepth 100000 in
theorem cellI_f (n k : Int) (w : World) (h : ¬ CellOk n k 8) (hk : -9223372036854775808 ≤ k ∧ k ≤ 9223372036854775807) : Calls Tryd.prog 22 #[.int .i64 n, .int .i64 k] w fun e w' => e = .returned (.bool false) ∧ w = w' := by
  unfold CellOk at h
  by_cases h1 : 1 ≤ n ∧ n ≤ 8
  · obtain ⟨h1, h2⟩ := h1
    by_cases h3 : 0 ≤ k
    · by_cases h4 : k ≤ n
      · have h5 : ¬ (n - k) % 2 = 0 := fun h5 => h ⟨⟨h1, h2⟩, h3, h4, h5⟩
        have h6 : (((n - k) % 2) == 0) = false := by simpa using h5
        have h7 : ((n - k).tmod 2 == 0) = false := by rw [Int.tmod_eq_emod_of_nonneg (by omega)]; exact h6
        clear h5 h
        go_enter Tryd.func22, Tryd.ntmps22
        go_wp2_with (first
          | (go_at_call 47; ((with_reducible refine (isSize_t n _ h1 h2).mono ?_); rintro e w0 ⟨rfl, rfl⟩)))
        go_ret
        exact ⟨rfl, rfl⟩
      · clear h
        go_enter Tryd.func22, Tryd.ntmps22
        go_wp2_with (first
          | (go_at_call 47; ((with_reducible refine (isSize_t n _ h1 h2).mono ?_); rintro e w0 ⟨rfl, rfl⟩)))
        go_ret
        exact ⟨rfl, rfl⟩
    · clear h
      go_enter Tryd.func22, Tryd.ntmps22
      go_wp2_with (first
        | (go_at_call 47; ((with_reducible refine (isSize_t n _ h1 h2).mono ?_); rintro e w0 ⟨rfl, rfl⟩)))
      go_ret
      exact ⟨rfl, rfl⟩
  · have h2 := Lib.hid (show n < 1 ∨ 8 < n by omega)
    clear h h1
    go_enter Tryd.func22, Tryd.ntmps22
    go_wp2_with (first
      | (go_at_call 47; ((with_reducible refine (isSize_f n _ h2.out).mono ?_); rintro e w0 ⟨rfl, rfl⟩)))
    go_ret
    exact ⟨rfl, rfl⟩
set_option maxRecDepth 100000 in
theorem rangeS_t (n k m : Int) (w : World) (h : CellOk n k m) (hm : m ≤ 100) : Calls Tryd.prog 42 #[.int .i64 n, .int .i64 k, .int .i64 m] w fun e w' => e = .returned (.bool true) ∧ w = w' := by
  obtain ⟨⟨h1, h2⟩, h3, h4, h5⟩ := h
  have h6 : (((n - k) % 2) == 0) = true := by simpa using h5
  have h7 : ((n - k).tmod 2 == 0) = true := by rw [Int.tmod_eq_emod_of_nonneg (by omega)]; exact h6
  clear h5
  go_enter Tryd.func42, Tryd.ntmps42
  go_wp2_with (first
    | (go_at_call 65; ((with_reducible refine (inS_t n 1 m _ h1 h2).mono ?_); rintro e w0 ⟨rfl, rfl⟩))
    | (go_at_call 65; ((with_reducible refine (inS_t k 0 n _ h3 h4).mono ?_); rintro e w0 ⟨rfl, rfl⟩)))
  go_ret
  exact ⟨rfl, rfl⟩
set_option maxRecDepth 100000 in
theorem rangeS_f (n k m : Int) (w : World) (h : ¬ CellOk n k m) (hm : m ≤ 100) : Calls Tryd.prog 42 #[.int .i64 n, .int .i64 k, .int .i64 m] w fun e w' => e = .returned (.bool false) ∧ w = w' := by
  unfold CellOk at h
  by_cases h1 : 1 ≤ n ∧ n ≤ m
  · obtain ⟨h1, h2⟩ := h1
    by_cases h3 : 0 ≤ k ∧ k ≤ n
    · obtain ⟨h3, h4⟩ := h3
      have h5 : ¬ (n - k) % 2 = 0 := fun h5 => h ⟨⟨h1, h2⟩, h3, h4, h5⟩
      have h6 : (((n - k) % 2) == 0) = false := by simpa using h5
      have h7 : ((n - k).tmod 2 == 0) = false := by rw [Int.tmod_eq_emod_of_nonneg (by omega)]; exact h6
      clear h5 h
      go_enter Tryd.func42, Tryd.ntmps42
      go_wp2_with (first
        | (go_at_call 65; ((with_reducible refine (inS_t n 1 m _ h1 h2).mono ?_); rintro e w0 ⟨rfl, rfl⟩))
        | (go_at_call 65; ((with_reducible refine (inS_t k 0 n _ h3 h4).mono ?_); rintro e w0 ⟨rfl, rfl⟩)))
      go_ret
      exact ⟨rfl, rfl⟩
    · have h4 := Lib.hid (show k < 0 ∨ n < k by omega)
      clear h h3
      go_enter Tryd.func42, Tryd.ntmps42
      go_wp2_with (first
        | (go_at_call 65; ((with_reducible refine (inS_t n 1 m _ h1 h2).mono ?_); rintro e w0 ⟨rfl, rfl⟩))
        | (go_at_call 65; ((with_reducible refine (inS_f k 0 n _ h4.out).mono ?_); rintro e w0 ⟨rfl, rfl⟩)))
      go_ret
      exact ⟨rfl, rfl⟩
  · have h2 := Lib.hid (show n < 1 ∨ m < n by omega)
    clear h h1
    go_enter Tryd.func42, Tryd.ntmps42
    go_wp2_with (first
      | (go_at_call 65; ((with_reducible refine (inS_f n 1 m _ h2.out).mono ?_); rintro e w0 ⟨rfl, rfl⟩)))
    go_ret
    exact ⟨rfl, rfl⟩
end Go.Proofs.YtopenojociafaaaDoor
namespace Go.Proofs.YtopenojociafaaaDoor
open Go.RowKit Go.Shelf
attribute [local go_sem] Oper.semAt_some
set_option linter.unusedVariables false
set_option linter.unusedSimpArgs false
theorem wide_room : (Fence.wide).depth = none := rfl
theorem wide_round : (Fence.wide).round = none := rfl
theorem seaI_any (n k : Int) (w : World) : Calls Tryd.prog 24 #[.int .i64 n, .int .i64 k] w fun e w' =>
    e = .returned (.func (.func 49) #[] #[.pointer (some ⟨w.heap.size, 0, none⟩), .pointer (some ⟨w.heap.size + 1, 0, none⟩)]) ∧ w' = (w.alloc (.cells #[.int .i64 n] 2)).alloc (.cells #[.int .i64 k] 2) := by
  go_enter Tryd.func24, Tryd.ntmps24
  go_wp2
  go_ret
  exact ⟨rfl, rfl⟩
end Go.Proofs.YtopenojociafaaaDoor
namespace Go.Proofs.YtopenojociafaaaDoor
open Go.RowKit
set_option linter.unusedVariables false
set_option linter.unusedSimpArgs false
/-- Block g, of a number at least base, holds the numbers xs, and has room for cap. -/
def Strs (w : World) (base g cap : Nat) (xs : List ByteArray) : Prop :=
  base ≤ g ∧ xs.length ≤ cap ∧ cap ≤ maxLen ∧ ∃ cur : Array Value, Own w g cur 9 ∧ cur.size = cap ∧ cur.toList.take xs.length = xs.map (Value.string)
/-- The value of such a slice. -/
def stval (g cap : Nat) (xs : List ByteArray) : Value := .slice (some ⟨g, 0, none⟩) xs.length cap

theorem Strs.lt {w : World} {base g cap : Nat} {xs : List ByteArray} (h : Strs w base g cap xs) : g < w.heap.size := by
  obtain ⟨_, _, _, cur, ho, _⟩ := h; exact ho.lt
theorem Strs.cell {w : World} {base g cap : Nat} {xs : List ByteArray} (h : Strs w base g cap xs) (j : Nat) (hj : j < xs.length) : w.cell? ⟨g, j, none⟩ = some (.string (xs.getD j ByteArray.empty)) := by
  obtain ⟨_, h2, _, cur, ho, hs, ht⟩ := h
  rw [ho.cell]
  have e : (cur.toList.take xs.length)[j]? = (xs.map (Value.string))[j]? := by rw [ht]
  rw [List.getElem?_take_of_lt hj] at e
  simpa [hj] using e
theorem Strs.below {w w' : World} {base g cap B : Nat} {xs : List ByteArray} (h : Strs w base g cap xs) (hb : Below B w w') (hB : g < B) : Strs w' base g cap xs := by
  obtain ⟨h1, h2, h3, cur, ho, hs, ht⟩ := h
  exact ⟨h1, h2, h3, cur, ho.below hb hB, hs, ht⟩
theorem Strs.only {w w' : World} {base g cap b : Nat} {xs : List ByteArray} (h : Strs w base g cap xs) (hb : Only b w w') (hB : g ≠ b) : Strs w' base g cap xs := by
  obtain ⟨h1, h2, h3, cur, ho, hs, ht⟩ := h
  exact ⟨h1, h2, h3, cur, ho.only hb hB, hs, ht⟩
theorem Strs.alloc {w : World} {base g cap : Nat} {xs : List ByteArray} (h : Strs w base g cap xs) (o : Obj) : Strs (w.alloc o) base g cap xs := by
  obtain ⟨h1, h2, h3, cur, ho, hs, ht⟩ := h
  exact ⟨h1, h2, h3, cur, ho.alloc o, hs, ht⟩
theorem Strs.drewN {w : World} {base g cap : Nat} {xs : List ByteArray} (h : Strs w base g cap xs) (n : Nat) : Strs (w.drewN n) base g cap xs := h
theorem Strs.pop {w : World} {base g cap : Nat} {xs : List ByteArray} {x : ByteArray} (h : Strs w base g cap (xs ++ [x])) : Strs w base g cap xs := by
  obtain ⟨h1, h2, h3, cur, ho, hs, ht⟩ := h
  simp only [List.length_append, List.length_cons, List.length_nil] at h2
  refine ⟨h1, by omega, h3, cur, ho, hs, ?_⟩
  have e : (cur.toList.take (xs ++ [x]).length).take xs.length = ((xs ++ [x]).map (Value.string)).take xs.length := by rw [ht]
  rw [List.take_take, Nat.min_eq_left (by simp)] at e
  rw [e, List.map_append, List.take_append_of_le_length (by simp)]
  rw [List.take_of_length_le (by simp)]
theorem Strs.owns {w : World} {base g cap : Nat} {xs : List ByteArray} (h : Strs w base g cap xs) : w.ownsRow base 9 1 (stval g cap xs) xs.length (xs.map (Value.string)) := by
  obtain ⟨h1, h2, h3, cur, ho, hs, ht⟩ := h
  exact ⟨by simp, .inr ⟨g, cap, cur, rfl, h1, ho, h2, h3, by simpa using hs, by simpa using ht⟩⟩
theorem Strs.of_owns {w : World} {base : Nat} {v : Value} {xs : List ByteArray} (h : w.ownsRow base 9 1 v xs.length (xs.map (Value.string))) (hv : v ≠ .slice none 0 0) : ∃ g cap, v = stval g cap xs ∧ Strs w base g cap xs := by
  obtain ⟨_, ⟨h0, _⟩ | ⟨g, cap, cur, hv', hg, hh, hn, hcap, hsz, htake⟩⟩ := h
  · exact absurd h0 hv
  · exact ⟨g, cap, hv', hg, hn, hcap, cur, hh, by simpa using hsz, by simpa using htake⟩
theorem Strs.new (w : World) (base n cap : Nat) (hb : base ≤ w.heap.size) (hw : w.heap.size = n) (hc : cap ≤ maxLen) (cs : Array Value) (hs : cs.size = cap) : Strs (w.alloc (.cells cs 9)) base n cap [] := by
  subst hw
  exact ⟨hb, Nat.zero_le _, hc, cs, Own.new _ _ _, hs, by simp⟩

theorem infoStr : (Tryd.prog.info? 9).map (fun i => (i.zero, i.size, i.bytes)) = some (some (.string ByteArray.empty), 1, 16) := by kernel_rfl
/-- One number is appended. -/
theorem wpList_append_strs {ops : Array Oper} {rest : List Oper} {o : Oper} {a : Act} {w : World} {Q : Exit → Act → World → Prop} (hgd : o.guard = none) (s x : Operand)
    (ho : o.op = .call { callee := .builtin .append, args := #[s, x], argTypes := #[39, 39] })
    (base g cap : Nat) (xs : List ByteArray) (y : ByteArray) (hs : a.eval s = stval g cap xs) (hi : Strs w base g cap xs) (ad : Addr) (c : Nat)
    (hx : a.eval x = .slice (some ad) 1 c) (hy : w.cell? ad = some (.string y)) (hl : xs.length < 2097152) (hbase : base ≤ w.heap.size)
    (h : ∀ g' cap' w', Strs w' base g' cap' (xs ++ [y]) → w.grownBy w' (some g) → wpList Tryd.prog ops Q rest (a.put o.dst (stval g' cap' (xs ++ [y]))) w') : wpList Tryd.prog ops Q (o :: rest) a w := by
  obtain ⟨i0, hi0, hz0, hz1, hz2⟩ := info_parts infoStr
  refine wpList_append_own w hgd s x 39 ho base 9 i0 (.string ByteArray.empty) 1 16 Tryd.underlying39 hi0 hz0 hz1 hz2 rfl (by decide) _ _ _ hs hi.owns ad 1 c [.string y] hx rfl ?_ (by simp [Value.oneCell']) (by unfold maxLen; omega) (by omega) hbase ?_
  · intro j u hj
    match j, hj with
    | 0, hj =>
      simp at hj; subst hj
      have e : ad.add 0 = ad := by unfold Addr.add; split <;> simp_all
      rw [e]; exact hy
    | j + 1, hj => simp at hj
  · intro v' w' hown hgr hn
    have e1 : (xs ++ [y]).length = xs.length + 1 := by simp
    have e2 : (xs ++ [y]).map (Value.string) = xs.map (Value.string) ++ [.string y] := by simp
    rw [← e1, ← e2] at hown
    obtain ⟨g', cap', rfl, hI⟩ := Strs.of_owns hown (fun e => by simpa [stval] using hn.1 e)
    exact h g' cap' w' hI hgr
end Go.Proofs.YtopenojociafaaaDoor
namespace Go.Proofs.YtopenojociafaaaDoor
open Go.RowKit
set_option linter.unusedVariables false
def txs : Nat → List UInt8 → Nat → Nat → List (List UInt8)
  | 0, _, _, _ => []
  | f + 1, t, o, r => if o = 0 ∧ r = 0 then [t] else (if 0 < r then txs f (t ++ [40]) (o + 1) (r - 1) else []) ++ (if 0 < o then txs f (t ++ [41]) (o - 1) r else [])
theorem txs_end (f : Nat) (t : List UInt8) : txs (f + 1) t 0 0 = [t] := by rw [txs, if_pos ⟨rfl, rfl⟩]
theorem txs_step (f : Nat) (t : List UInt8) (o r : Nat) (h : ¬ (o = 0 ∧ r = 0)) : txs (f + 1) t o r = (if 0 < r then txs f (t ++ [40]) (o + 1) (r - 1) else []) ++ (if 0 < o then txs f (t ++ [41]) (o - 1) r else []) := by rw [txs, if_neg h]
/-- All systems of m arches, as both list them. -/
theorem txs_all (m : Nat) (h1 : 1 ≤ m) (h6 : m ≤ 6) : txs (2 * m + 1) [] 0 m = allH (2 * m) 0 := by
  have h : m = 1 ∨ m = 2 ∨ m = 3 ∨ m = 4 ∨ m = 5 ∨ m = 6 := by omega
  rcases h with rfl | rfl | rfl | rfl | rfl | rfl <;> decide +kernel
theorem allH_len12 (m : Nat) (h1 : 1 ≤ m) (h6 : m ≤ 6) : (allH (2 * m) 0).length ≤ 132 := by
  have h : m = 1 ∨ m = 2 ∨ m = 3 ∨ m = 4 ∨ m = 5 ∨ m = 6 := by omega
  rcases h with rfl | rfl | rfl | rfl | rfl | rfl <;> decide +kernel
def bsv (x : List UInt8) : ByteArray := ⟨x.toArray⟩
def bsl (L : List (List UInt8)) : List ByteArray := L.map bsv
theorem bsl_app (A B : List (List UInt8)) : bsl (A ++ B) = bsl A ++ bsl B := by simp [bsl]
theorem bsv_app (t : List UInt8) (c : UInt8) : bsv t ++ ⟨#[c]⟩ = bsv (t ++ [c]) := by
  apply ByteArray.ext
  simp [bsv]
end Go.Proofs.YtopenojociafaaaDoor
namespace Go.Proofs.YtopenojociafaaaDoor
open Go.RowKit Go.Shelf
attribute [local go_sem] Oper.semAt_some
set_option linter.unusedVariables false
set_option linter.unusedSimpArgs false
/-- A slice of texts of the call's own, or nil when there is none. -/
def Col (w : World) (base : Nat) (v : Value) (L : List (List UInt8)) : Prop := w.ownsRow base 9 1 v L.length (L.map hval)
theorem Col.of_same {w w' : World} {base : Nat} {v : Value} {L : List (List UInt8)} (h : Col w base v L) (hs : ∀ j, base ≤ j → j < w.heap.size → w'.heap[j]? = w.heap[j]?) : Col w' base v L := by
  obtain ⟨h1, h2 | ⟨g, cap, cur, hv, hg, hh, hn, hcap, hsz, htake⟩⟩ := h
  · exact ⟨h1, .inl h2⟩
  · have hh' : Own w g cur 9 := hh
    exact ⟨h1, .inr ⟨g, cap, cur, hv, hg, (hs g hg hh'.lt).trans hh, hn, hcap, hsz, htake⟩⟩
theorem Col.put {w : World} {base D : Nat} {v : Value} {L : List (List UInt8)} (h : Col w base v L) (hK : w.heap[D]? = some (.deferred (some []))) (o : Obj) : Col (w.putObj D o) base v L := by
  obtain ⟨h1, h2 | ⟨g, cap, cur, hv, hg, hh, hn, hcap, hsz, htake⟩⟩ := h
  · exact ⟨h1, .inl h2⟩
  · have hh' : w.heap[g]? = some (.cells cur 9 (0, 0)) := hh
    have hne : g ≠ D := fun e => by rw [e, hK] at hh'; cases hh'
    exact ⟨h1, .inr ⟨g, cap, cur, hv, hg, (World.putObj_heap_other hne).trans hh, hn, hcap, hsz, htake⟩⟩
theorem Col.nil (w : World) (base : Nat) : Col w base (.slice none 0 0) [] := ⟨rfl, .inl ⟨rfl, rfl⟩⟩
theorem Col.own_ge {w : World} {base : Nat} {v : Value} {L : List (List UInt8)} (h : Col w base v L) : ∀ r, v.ownBlock = some r → base ≤ r ∧ r < w.heap.size := by
  obtain ⟨h1, ⟨rfl, _⟩ | ⟨g, cap, cur, rfl, hg, hh, hn, hcap, hsz, htake⟩⟩ := h
  · intro r e; cases e
  · intro r e
    have hh' : Own w g cur 9 := hh
    cases e; exact ⟨hg, hh'.lt⟩
theorem Col.shape {w : World} {base : Nat} {v : Value} {L : List (List UInt8)} (h : Col w base v L) : ∃ p m c, v = .slice p m c := by
  obtain ⟨h1, ⟨rfl, _⟩ | ⟨g, cap, cur, rfl, _⟩⟩ := h
  · exact ⟨_, _, _, rfl⟩
  · exact ⟨_, _, _, rfl⟩
theorem Col.base {w : World} {base base' : Nat} {v : Value} {L : List (List UInt8)} (h : Col w base v L) (hb : base' ≤ base) : Col w base' v L := by
  obtain ⟨h1, h2 | ⟨g, cap, cur, hv, hg, hh⟩⟩ := h
  · exact ⟨h1, .inl h2⟩
  · exact ⟨h1, .inr ⟨g, cap, cur, hv, Nat.le_trans hb hg, hh⟩⟩
theorem wpListIn_append_col {F : Fence} {n : Nat} {ops : Array Oper} {rest : List Oper} {o : Oper} {a : Act} {w : World} {Q : Exit → Act → World → Prop} (hgd : o.guard = none) (s x : Operand)
    (ho : o.op = .call { callee := .builtin .append, args := #[s, x], argTypes := #[39, 39] })
    (base : Nat) (v : Value) (L : List (List UInt8)) (y : List UInt8) (hs : a.eval s = v) (hi : Col w base v L) (ad : Addr) (c : Nat)
    (hx : a.eval x = .slice (some ad) 1 c) (hy : w.cell? ad = some (hval y)) (hl : L.length < 2097152) (hbase : base ≤ w.heap.size)
    (h : ∀ v' w', Col w' base v' (L ++ [y]) → w.grownBy w' v.ownBlock → wpListIn F n Tryd.prog ops Q rest (a.put o.dst v') w') : wpListIn F n Tryd.prog ops Q (o :: rest) a w := by
  obtain ⟨i0, hi0, hz0, hz1, hz2⟩ := info_parts infoStr
  refine wpListIn_append_own w hgd s x 39 ho base 9 i0 (.string ByteArray.empty) 1 16 Tryd.underlying39 hi0 hz0 hz1 hz2 rfl (by decide) _ _ _ hs hi ad 1 c [hval y] hx rfl ?_ (by simp [hval, Value.oneCell']) (by unfold maxLen; omega) (by omega) hbase ?_
  · intro j u hj
    match j, hj with
    | 0, hj =>
      simp at hj; subst hj
      have e : ad.add 0 = ad := by unfold Addr.add; split <;> simp_all
      rw [e]; exact hy
    | j + 1, hj => simp at hj
  · intro v' w' hown hgr hn
    refine h v' w' ?_ hgr
    unfold Col
    rw [List.length_append, List.map_append]; exact hown
set_option maxRecDepth 100000 in
set_option maxHeartbeats 4000000 in
theorem aps_in (N o : Nat) (hN : N ≤ 100) (ho : o ≤ 100) (hlen : (allH N o).length ≤ 1000) (w : World) (bn bo : Nat) (h1 : bn < w.heap.size) (h2 : bo < w.heap.size) (c1 : w.cell? ⟨bn, 0, none⟩ = some (.int .i64 N)) (c2 : w.cell? ⟨bo, 0, none⟩ = some (.int .i64 o)) :
    CallsIn Fence.wide 6 Tryd.prog 48 #[.slice none 0 0, .func (.func 49) #[] #[.pointer (some ⟨bn, 0, none⟩), .pointer (some ⟨bo, 0, none⟩)]] w fun e w' => (∃ v, e = .returned v ∧ Col w' w.heap.size v (allH N o)) ∧ Below w.heap.size w w' := by
  refine callsIn_of_wp_marks Tryd.func48 rfl trivial ?_ rfl
  simp only [Tryd.ntmps48, List.size_toArray, List.length_cons, List.length_nil, Nat.reduceAdd, Nat.reduceSub, Array.replicate_succ, Array.replicate_zero, List.push_toArray, List.append_toArray, List.nil_append, List.cons_append]
  gi_wp2
  have hOa : Own (w.alloc (.cells #[.slice none 0 0] 39)) w.heap.size #[.slice none 0 0] 39 := Own.new w _ _
  have hBa : Below w.heap.size w (w.alloc (.cells #[.slice none 0 0] 39)) := (Below.refl _ _).alloc (Nat.le_refl _) _
  have hsz : (w.alloc (.cells #[.slice none 0 0] 39)).heap.size = w.heap.size + 1 := by simp
  have hcn := (hBa.cell (p := ⟨bn, 0, none⟩) h1).trans c1
  have hco := (hBa.cell (p := ⟨bo, 0, none⟩) h2).trans c2
  generalize (w.alloc (.cells #[.slice none 0 0] 39)) = wl at *
  refine wpIn_rangeFunc_made wide_round (by omega) (gf := 49) (lb := #[.pointer (some ⟨bn, 0, none⟩), .pointer (some ⟨bo, 0, none⟩)]) rfl trivial (enters_of Tryd.func49 (by kernel_rfl) rfl)
    (sea_made Fence.wide wide_room trivial trivial wide_round 5 bn bo N o hN ho wl (by omega) (by omega) hcn hco) (Below.refl _ _) (fun _ => rfl)
    w.heap.size (by omega) (fun pre W => ∃ v, Own W w.heap.size #[v] 39 ∧ Col W (w.heap.size + 4) v pre ∧ Below w.heap.size w W) ?hI ⟨_, hOa, Col.nil _ _, hBa⟩
    (fun x => { tmps := #[.slice none 0 0, .func (.func 49) #[] #[.pointer (some ⟨bn, 0, none⟩), .pointer (some ⟨bo, 0, none⟩)], .pointer (some ⟨w.heap.size, 0, none⟩), undef, .slice none 0 0, .string ⟨x.toArray⟩, .func (.func 49) #[] #[.pointer (some ⟨bn, 0, none⟩), .pointer (some ⟨bo, 0, none⟩)], .string ⟨x.toArray⟩, undef, undef, undef, undef, undef], defers := [] }) ?assign ?body ?done
  case hI =>
    rintro pre A B row ⟨v, hO, hC, hB⟩ hg hr
    refine ⟨v, ?_, hC.of_same (fun j hj hA => hg.block j hA (fun e => by have := hr j e.symm; omega)), hB.grown hg hB.size (fun r e => by have := hr r e; omega)⟩
    show B.heap[w.heap.size]? = _
    rw [hg.block _ hO.lt (fun e => by have := hr _ e.symm; omega)]; exact hO
  case assign =>
    intro l x W K hK
    have hz : (#[7].zip #[hval x] : Array (Tmp × Value)) = #[(7, hval x)] := by simp [Array.zip, Array.zipWith, Array.zipWithMAux]
    rw [hz]
    unfold hval
    simp only [List.foldl_toArray', List.foldl_cons, List.foldl_nil]
    gi_wp2
    exact hK
  case body =>
    rintro l pre x rest W hL ⟨v, hO, hC, hB⟩ hs
    have hpl : pre.length < 1000 := by
      have := congrArg List.length hL
      simp at this; omega
    have c1' : W.cell? ⟨w.heap.size, 0, none⟩ = some v := hO.cell 0
    have hge := hC.own_ge
    have hOx : Own (W.alloc (.cells #[(.string ⟨x.toArray⟩)] 9)) W.heap.size #[(.string ⟨x.toArray⟩)] 9 := Own.new W _ _
    have hCx : Col (W.alloc (.cells #[(.string ⟨x.toArray⟩)] 9)) (w.heap.size + 4) v pre := hC.of_same (fun j _ hj => Below.heap_alloc _ _ _ hj)
    have hOO : Own (W.alloc (.cells #[(.string ⟨x.toArray⟩)] 9)) w.heap.size #[v] 39 := hO.alloc _
    have hBx : Below w.heap.size w (W.alloc (.cells #[(.string ⟨x.toArray⟩)] 9)) := hB.alloc hB.size _
    have hBy : Below w.heap.size W (W.alloc (.cells #[(.string ⟨x.toArray⟩)] 9)) := (Below.refl _ W).alloc hB.size _
    have hsame : ∀ k, k < W.heap.size → (W.alloc (.cells #[(.string ⟨x.toArray⟩)] 9)).heap[k]? = W.heap[k]? := fun k hk => Below.heap_alloc _ _ _ hk
    have hszx : (W.alloc (.cells #[(.string ⟨x.toArray⟩)] 9)).heap.size = W.heap.size + 1 := by simp
    clear hL hlen
    gi_wp2_with (first
      | (refine wpListIn_append_col rfl (.tmp 8) (.tmp 10) rfl (w.heap.size + 4) v pre x rfl hCx ⟨W.heap.size, 0, none⟩ 1 rfl (hOx.cell 0) (by omega) (by omega) ?_; intro v2 W2 hC2 hG2; obtain ⟨p2, m2, q2, rfl⟩ := hC2.shape; have hO2 : Own W2 w.heap.size #[v] 39 := ((hG2.block _ hOO.lt (fun e => by have := hge _ e.symm; omega)).trans hOO); have f2 := hO2.free 0; have k2 := hO2.cell 0))
    have gg : ∀ k, v.ownBlock = some k → w.heap.size ≤ k := fun k e => by have := hge _ e; omega
    have bW : Below w.heap.size W W2 := hBy.grown hG2 (by omega) (fun k e => gg k (by first | exact e | exact e.symm))
    have bw : Below w.heap.size w W2 := hBx.grown hG2 (by omega) (fun k e => gg k (by first | exact e | exact e.symm))
    have sW := bW.size
    have z2 : W2.heap.size = W2.heap.size := rfl
    have zG : (W.alloc (.cells #[(.string ⟨x.toArray⟩)] 9)).heap.size ≤ W2.heap.size := hG2.size
    refine ⟨⟨bW.setCell (p := ⟨w.heap.size, 0, none⟩) (Nat.le_refl _) _, by simp; omega, fun j j1 j2 => ?_⟩, .slice p2 m2 q2, hO2.set 0 _, hC2.of_same (fun j hj _ => Below.heap_setCell _ _ _ _ (by show j ≠ w.heap.size; omega)), bw.setCell (p := ⟨w.heap.size, 0, none⟩) (Nat.le_refl _) _⟩
    rw [Below.heap_setCell _ _ _ _ (by show j ≠ w.heap.size; omega), hG2.block j (by omega) (fun e => by have := hge _ e.symm; omega)]
    exact hsame j (by omega)
  case done =>
    rintro D W hD ⟨v, hO, hC, hB⟩ hbl hK
    have c1' : W.cell? ⟨w.heap.size, 0, none⟩ = some v := hO.cell 0
    gi_wp2
    refine ⟨by simp, .inl ⟨_, _, rfl, run_takeDeferred hK, ?_⟩⟩
    have gr := grownBy_putObj' W D (.deferred none)
    have hBD : Below w.heap.size w (W.putObj D (.deferred none)) := hB.grown gr hB.size (fun r e => by cases e; omega)
    exact ⟨_, results_tmp rfl _ _ _, ⟨v, rfl, (hC.put hK _).base (by omega)⟩, hBD⟩
theorem aps_ok (N o : Nat) (hN : N ≤ 100) (ho : o ≤ 100) (hlen : (allH N o).length ≤ 1000) (w : World) (bn bo : Nat) (h1 : bn < w.heap.size) (h2 : bo < w.heap.size) (c1 : w.cell? ⟨bn, 0, none⟩ = some (.int .i64 N)) (c2 : w.cell? ⟨bo, 0, none⟩ = some (.int .i64 o)) :
    Calls Tryd.prog 48 #[.slice none 0 0, .func (.func 49) #[] #[.pointer (some ⟨bn, 0, none⟩), .pointer (some ⟨bo, 0, none⟩)]] w fun e w' => (∃ v, e = .returned v ∧ Col w' w.heap.size v (allH N o)) ∧ Below w.heap.size w w' :=
  callsIn_wide.1 (aps_in N o hN ho hlen w bn bo h1 h2 c1 c2)
theorem col_ok (N o : Nat) (hN : N ≤ 100) (ho : o ≤ 100) (hlen : (allH N o).length ≤ 1000) (w : World) (bn bo : Nat) (h1 : bn < w.heap.size) (h2 : bo < w.heap.size) (c1 : w.cell? ⟨bn, 0, none⟩ = some (.int .i64 N)) (c2 : w.cell? ⟨bo, 0, none⟩ = some (.int .i64 o)) :
    Calls Tryd.prog 23 #[.func (.func 49) #[] #[.pointer (some ⟨bn, 0, none⟩), .pointer (some ⟨bo, 0, none⟩)]] w fun e w' => (∃ v, e = .returned v ∧ Col w' w.heap.size v (allH N o)) ∧ Below w.heap.size w w' := by
  have hA := Lib.hid (aps_ok N o hN ho hlen w bn bo h1 h2 c1 c2)
  clear hN ho hlen h1 h2 c1 c2
  go_enter Tryd.func23, Tryd.ntmps23
  go_wp2_with (first
    | (go_at_call 48; ((with_reducible refine (hA.out).mono ?_); rintro e w2 ⟨⟨v, rfl, hC⟩, hB⟩)))
  go_ret
  exact ⟨⟨v, rfl, hC⟩, hB⟩
end Go.Proofs.YtopenojociafaaaDoor
namespace Go.Proofs.YtopenojociafaaaDoor
open Go.RowKit
set_option linter.unusedVariables false
set_option linter.unusedSimpArgs false
def mdg : Nat → Nat → ByteArray → ByteArray
  | 0, _, out => out
  | f + 1, k, out => if k = 0 then out else mdg f (k / 10) (strOfNums [48 + ((k % 10 : Nat) : Int)] ++ out)
theorem mdg_zero (f : Nat) (out : ByteArray) : mdg f 0 out = out := by
  cases f <;> simp [mdg]
theorem mdg_step (f k : Nat) (out : ByteArray) (h : ¬ k = 0) : mdg (f + 1) k out = mdg f (k / 10) (strOfNums [48 + ((k % 10 : Nat) : Int)] ++ out) := by rw [mdg, if_neg h]
def mtx (k : Nat) : ByteArray := ⟨#[109]⟩ ++ mdg 8 k ⟨#[]⟩
end Go.Proofs.YtopenojociafaaaDoor
namespace Go.Proofs.YtopenojociafaaaDoor
open Go.RowKit Go.BigFrame
set_option linter.unusedVariables false
set_option linter.unusedSimpArgs false
abbrev eB : ByteArray := ByteArray.empty
/-- The texts that can be read through a slice's pointer. -/
structure SRd (w : World) (p : Option Addr) (xs : List ByteArray) : Prop where
  cell : ∀ a, p = some a → ∀ j, j < xs.length → w.cell? (a.add j) = some (.string (xs.getD j eB))
  nil : p = none → xs = []
theorem SRd.below {w w' : World} {p : Option Addr} {xs : List ByteArray} (h : SRd w p xs) (hb : Below w.heap.size w w') : SRd w' p xs := by
  refine ⟨fun a e j hj => ?_, h.nil⟩
  have hc := h.cell a e j hj
  have hlt : (a.add j).block < w.heap.size := by
    refine Decidable.byContradiction fun hn => ?_
    unfold World.cell? at hc
    rw [Array.getElem?_eq_none (by omega)] at hc
    simp at hc
  have : w'.cell? (a.add j) = w.cell? (a.add j) := by unfold World.cell?; rw [hb.block _ hlt]
  rw [this]; exact hc
def tcells (xs : List ByteArray) (sp : List Value) : Array Value := (xs.map Value.string ++ sp).toArray
theorem tcells_get (xs : List ByteArray) (sp : List Value) (j : Nat) (h : j < xs.length) : (tcells xs sp)[j]? = some (.string (xs.getD j eB)) := by
  unfold tcells
  rw [List.getElem?_toArray, List.getElem?_append_left (by simpa using h)]
  simp [h]
theorem tcells_set (xs : List ByteArray) (sp : List Value) (j : Nat) (x : ByteArray) (h : j < xs.length) : (tcells xs sp).setIfInBounds j (.string x) = tcells (xs.set j x) sp := by
  unfold tcells
  apply Array.toList_inj.1
  simp only [Array.toList_setIfInBounds]
  rw [List.set_append_left _ _ (by simpa using h), List.map_set]
/-- A slice of texts in memory of a call's own, at a block of a number at least B. -/
def TMn (w : World) (B : Nat) (p : Option Addr) (xs : List ByteArray) : Prop :=
  (p = none ∧ xs = []) ∨ ∃ (g : Nat) (sp : List Value), p = some ⟨g, 0, none⟩ ∧ B ≤ g ∧ Own w g (tcells xs sp) 9
theorem TMn.rd {w : World} {B : Nat} {p : Option Addr} {xs : List ByteArray} (h : TMn w B p xs) : SRd w p xs := by
  rcases h with ⟨rfl, rfl⟩ | ⟨g, sp, rfl, hb, ho⟩
  · exact ⟨fun a e => (by cases e), fun _ => rfl⟩
  · refine ⟨fun a e j hj => ?_, fun e => by cases e⟩
    cases e
    have : (⟨g, 0, none⟩ : Addr).add j = ⟨g, j, none⟩ := by rw [Addr.add_mid, Nat.zero_add]
    rw [this, ho.cell, tcells_get _ _ _ hj]
theorem TMn.below {w w' : World} {B B' : Nat} {p : Option Addr} {xs : List ByteArray} (h : TMn w B p xs) (hb : Below B' w w') (hs : w.heap.size ≤ B') : TMn w' B p xs := by
  rcases h with h | ⟨g, sp, rfl, hg, ho⟩
  · exact .inl h
  · exact .inr ⟨g, sp, rfl, hg, ho.below hb (Nat.lt_of_lt_of_le ho.lt hs)⟩
theorem TMn.nil (w : World) (B : Nat) : TMn w B none [] := .inl ⟨rfl, rfl⟩
theorem tcells_of (cur : Array Value) (xs : List ByteArray) (ht : cur.toList.take xs.length = xs.map Value.string) : tcells xs (cur.toList.drop xs.length) = cur := by
  unfold tcells
  rw [← ht, List.take_append_drop]
theorem TMn.strs {w : World} {B base g cap : Nat} {xs : List ByteArray} (hb : B ≤ base) (h : Strs w base g cap xs) : TMn w B (some ⟨g, 0, none⟩) xs := by
  obtain ⟨h1, h2, h3, cur, ho, hs, ht⟩ := h
  exact .inr ⟨g, cur.toList.drop xs.length, rfl, Nat.le_trans hb h1, by rw [tcells_of _ _ ht]; exact ho⟩
theorem bsl_len (L : List (List UInt8)) : (bsl L).length = L.length := by simp [bsl]
theorem hval_map (L : List (List UInt8)) : L.map hval = (bsl L).map Value.string := by simp [bsl, bsv, hval]
theorem Col.tmn {w : World} {base : Nat} {v : Value} {L : List (List UInt8)} (h : Col w base v L) : ∃ p cap, v = .slice p L.length cap ∧ TMn w base p (bsl L) := by
  obtain ⟨h1, ⟨rfl, h0⟩ | ⟨g, cap, cur, rfl, hg, hh, hn, hcap, hsz, htake⟩⟩ := h
  · have h0' : L.length = 0 := h0
    have : L = [] := List.length_eq_zero_iff.1 h0'
    subst this
    exact ⟨none, 0, rfl, TMn.nil _ _⟩
  · have ht : cur.toList.take (bsl L).length = (bsl L).map Value.string := by
      rw [← hval_map, bsl_len]; simpa using htake
    exact ⟨some ⟨g, 0, none⟩, cap, rfl, .inr ⟨g, cur.toList.drop (bsl L).length, rfl, hg, by rw [tcells_of _ _ ht]; exact hh⟩⟩
/-- A list of texts that the call has made, and a code. -/
def ResT (xs : List ByteArray) (c : Int) (w : World) (e : Ending) (w' : World) : Prop :=
  ∃ (p : Option Addr) (cap : Nat), e = .returned (.tuple #[.slice p xs.length cap, .int .i64 c]) ∧ TMn w' w.heap.size p xs ∧ Below w.heap.size w w'
/-- The marks k, k + 1, .. -/
def marksT (k : Nat) (n : Nat) : List ByteArray := (List.range n).map fun (j : Nat) => mtx (k + j)
theorem marksT_len (k : Nat) (n : Nat) : (marksT k n).length = n := by simp [marksT]
theorem marksT_get (k : Nat) (n j : Nat) (h : j < n) : (marksT k n).getD j eB = mtx (k + j) := by
  rw [List.getD_eq_getElem?_getD]; simp [marksT, h]
def mkT (k : Nat) (xs : List ByteArray) (j : Nat) : List ByteArray := marksT k j ++ xs.drop j
theorem mkT_len (k : Nat) (xs : List ByteArray) (j : Nat) (h : j ≤ xs.length) : (mkT k xs j).length = xs.length := by simp [mkT, marksT]; omega
theorem mkT_set (k : Nat) (xs : List ByteArray) (j : Nat) (h : j < xs.length) : (mkT k xs j).set j (mtx (k + j)) = mkT k xs (j + 1) := by
  unfold mkT
  rw [List.set_append_right _ _ (by rw [marksT_len]; exact Nat.le_refl _), marksT_len, Nat.sub_self, List.drop_eq_getElem_cons h, List.set_cons_zero]
  unfold marksT
  rw [List.range_succ, List.map_append]
  simp
theorem mkT_end (k : Nat) (xs : List ByteArray) : mkT k xs xs.length = marksT k xs.length := by simp [mkT]
end Go.Proofs.YtopenojociafaaaDoor
