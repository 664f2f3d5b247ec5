/- Two diagrams are compared as values: true exactly if sizes and mates are equal. -/
import Derived.Test.YtdmgmhjclagnpaaInts
namespace Go.Proofs.Ytdmgmhjclagnpaa
open Go.RowKit
theorem mates_of (n : Int) (ms : List Int) (h : ms.length = 16) : (dcells n ms).extract 1 17 = mcells ms := by
  obtain ⟨a0, a1, a2, a3, a4, a5, a6, a7, a8, a9, b0, b1, b2, b3, b4, b5, rfl⟩ := list16 ms h
  kernel_rfl
theorem part5 (ms : List Int) (i : Nat) (hi : i < ms.length) (w : World) : (part 5 (mcells ms) i).run Try.prog w = .ok (.int .u8 (ms.getD i 0)) w := by
  have ha : (isAgg 5).run Try.prog w = .ok false w := by kernel_rfl
  have hg := mcells_get ms i hi
  unfold part
  simp [Sem.run_bind, ha, hg]
theorem eqLoop (d : Nat) (ms ms' : List Int) (h : ms.length = 16) (h' : ms'.length = 16) (w : World) (l : List Nat) (hl : ∀ i ∈ l, i < 16) :
    (forIn l ((none : Option Bool), ()) fun i __s => (do
            let __do_lift ← part 5 (mcells ms) i
            let __do_lift_1 ← part 5 (mcells ms') i
            let __do_lift ← Op.equalIn (d + 1) 5 __do_lift __do_lift_1
            if (!__do_lift) = true then pure (ForInStep.done (some false, ())) else pure (ForInStep.yield (none, ())) : Sem (ForInStep (Option Bool × Unit)))).run Try.prog w
      = .ok (if l.all (fun i => ms.getD i 0 == ms'.getD i 0) then (none, ()) else (some false, ())) w := by
  induction l with
  | nil => simp
  | cons i l ih =>
    have hi := hl i (by simp)
    have ih' := ih (fun j hj => hl j (by simp [hj]))
    rw [List.forIn_cons]
    simp only [Sem.run_bind, part5 ms i (by omega), part5 ms' i (by omega), Result.andThen_ok, run_equalIn_int w d 5 .u8 .u8 _ _ Try.underlying5]
    by_cases hq : ms.getD i 0 = ms'.getD i 0
    · have hb : (ms.getD i 0 == ms'.getD i 0) = true := by simpa using hq
      rw [hb]
      simp only [Bool.not_true, Bool.false_eq_true, if_false, Sem.run_pure, Result.andThen_ok, ih', List.all_cons, hb, Bool.true_and]
    · have hb : (ms.getD i 0 == ms'.getD i 0) = false := by simpa using hq
      rw [hb]
      simp only [Bool.not_false, if_true, Sem.run_pure, Result.andThen_ok, List.all_cons, hb, Bool.false_and]
      rfl
theorem all16 (ms ms' : List Int) (h : ms.length = 16) (h' : ms'.length = 16) : (List.range' 0 16).all (fun i => ms.getD i 0 == ms'.getD i 0) = decide (ms = ms') := by
  rw [Bool.eq_iff_iff, List.all_eq_true, decide_eq_true_iff]
  constructor
  · intro hq
    apply List.ext_getElem (by omega)
    intro i h1 h2
    have := hq i (by simp; omega)
    simpa [h1, h2] using this
  · rintro rfl i _
    simp
theorem eqArr (d : Nat) (ms ms' : List Int) (h : ms.length = 16) (h' : ms'.length = 16) (w : World) :
    (Op.equalIn (d + 2) 49 (.agg (mcells ms)) (.agg (mcells ms'))).run Try.prog w = .ok (decide (ms = ms')) w := by
  have hs : (sizeOf 5).run Try.prog w = .ok 1 w := by kernel_rfl
  have hu : Try.prog.underlying 49 = some (.array 16 5) := by kernel_rfl
  have hL := eqLoop d ms ms' h h' w (List.range' 0 16) (fun i hi => by simp at hi; omega)
  rw [all16 ms ms' h h'] at hL
  rw [Op.equalIn]
  simp only [Sem.run_bind, run_underlying hu, Result.andThen_ok, hs, Nat.mul_one]
  rw [Std.Legacy.Range.forIn_eq_forIn_range']
  simp only [Std.Legacy.Range.size, Nat.sub_zero, Nat.reduceAdd, Nat.reduceSub, Nat.div_one]
  rw [hL]
  by_cases hq : ms = ms'
  · simp [hq]
  · simp [hq]
theorem eqMates (n n' : Int) (ms ms' : List Int) (h : ms.length = 16) (h' : ms'.length = 16) (w : World) :
    (Op.equalIn 9999 49 (.agg ((dcells n ms).extract 1 17)) (.agg ((dcells n' ms').extract 1 17))).run Try.prog w = .ok (decide (ms = ms')) w := by
  rw [mates_of n ms h, mates_of n' ms' h']
  exact eqArr 9997 ms ms' h h' w
end Go.Proofs.Ytdmgmhjclagnpaa
