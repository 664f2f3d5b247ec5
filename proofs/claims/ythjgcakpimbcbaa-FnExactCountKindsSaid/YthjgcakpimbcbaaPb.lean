/- Words and laws of a partition in memory: a size and eight bytes; the laws' own copies and comparisons of them; == on them. -/
import Derived.Test.YthjgcakpimbcbaaLawD
import Derived.Test.YthjgcakpimbcbaaEq
import Derived.Test.YthjgcakpimbcbaaText
import Derived.ProofKit
import Derived.OpenShut
namespace Go.Proofs.Ythjgcakpimbcbaa
open Go.RowKit
def zer8 : List Int := List.replicate 8 0
theorem zlen8 : zer8.length = 8 := rfl
/-- The zero value's cells. -/
def zp : Array Value := dcells 0 zer8
theorem one8 (ms : List Int) : (mcells ms).all (·.oneCell') = true := by simp [mcells, Value.oneCell']
theorem zp9 : zp.size = 9 := rfl
theorem z_eq8 {c : Array Value} (h : c.size = 9) : zp.size = c.size := by rw [h]; rfl
theorem rowP {c : Array Value} (h : c.size = 9) : (Try.prog.info? 38).map (·.size) = some c.size := by
  rw [h]; kernel_rfl
theorem d9 (n : Int) (ms : List Int) (h : ms.length = 8) : (dcells n ms).size = 9 := by rw [dcells_size, h]

theorem row8 {c : Array Value} (h : c.size = 8) : (Try.prog.info? 36).map (·.size) = some c.size := by
  rw [h]; kernel_rfl
theorem m8 (ms : List Int) (h : ms.length = 8) : (mcells ms).size = 8 := by rw [mcells_size, h]

theorem list8 (ms : List Int) (h : ms.length = 8) : ∃ a0 a1 a2 a3 a4 a5 a6 a7 : Int, ms = [a0, a1, a2, a3, a4, a5, a6, a7] := by
  match ms, h with
  | [a0, a1, a2, a3, a4, a5, a6, a7], _ => exact ⟨a0, a1, a2, a3, a4, a5, a6, a7, rfl⟩


theorem len8 {ms : List Int} (h : ms.length = 8) : (Try.prog.info? 36).map (·.size) = some (ms.map (Value.int .u8)).length := by
  rw [List.length_map, h]; kernel_rfl

theorem builtP0 : Try.prog.built 38 [] = some zp := by kernel_rfl
theorem builtP1 (n : Int) : Try.prog.built 38 [(0, .int .i64 n)] = some (dcells n zer8) := by kernel_rfl
theorem parts_of (n : Int) (ms : List Int) (h : ms.length = 8) : (dcells n ms).extract 1 9 = mcells ms := by
  obtain ⟨a0, a1, a2, a3, a4, a5, a6, a7, rfl⟩ := list8 ms h
  kernel_rfl
theorem eqLoop8 (d : Nat) (ms ms' : List Int) (h : ms.length = 8) (h' : ms'.length = 8) (w : World) (l : List Nat) (hl : ∀ i ∈ l, i < 8) :
    (forIn l ((none : Option Bool), ()) fun i __s => (do
            let __do_lift ← part 5 (mcells ms) i
            let __do_lift_1 ← part 5 (mcells ms') i
            let __do_lift ← Op.equalIn (d + 1) 5 __do_lift __do_lift_1
            if (!__do_lift) = true then pure (ForInStep.done (some false, ())) else pure (ForInStep.yield (none, ())) : Sem (ForInStep (Option Bool × Unit)))).run Try.prog w
      = .ok (if l.all (fun i => ms.getD i 0 == ms'.getD i 0) then (none, ()) else (some false, ())) w := by
  induction l with
  | nil => simp
  | cons i l ih =>
    have hi := hl i (by simp)
    have ih' := ih (fun j hj => hl j (by simp [hj]))
    rw [List.forIn_cons]
    simp only [Sem.run_bind, part5 ms i (by omega), part5 ms' i (by omega), Result.andThen_ok, run_equalIn_int w d 5 .u8 .u8 _ _ Try.underlying5]
    by_cases hq : ms.getD i 0 = ms'.getD i 0
    · have hb : (ms.getD i 0 == ms'.getD i 0) = true := by simpa using hq
      rw [hb]
      simp only [Bool.not_true, Bool.false_eq_true, if_false, Sem.run_pure, Result.andThen_ok, ih', List.all_cons, hb, Bool.true_and]
    · have hb : (ms.getD i 0 == ms'.getD i 0) = false := by simpa using hq
      rw [hb]
      simp only [Bool.not_false, if_true, Sem.run_pure, Result.andThen_ok, List.all_cons, hb, Bool.false_and]
      rfl
theorem all8 (ms ms' : List Int) (h : ms.length = 8) (h' : ms'.length = 8) : (List.range' 0 8).all (fun i => ms.getD i 0 == ms'.getD i 0) = decide (ms = ms') := by
  rw [Bool.eq_iff_iff, List.all_eq_true, decide_eq_true_iff]
  constructor
  · intro hq
    apply List.ext_getElem (by omega)
    intro i h1 h2
    have := hq i (by simp; omega)
    simpa [h1, h2] using this
  · rintro rfl i _
    simp
theorem eqArr8 (d : Nat) (ms ms' : List Int) (h : ms.length = 8) (h' : ms'.length = 8) (w : World) :
    (Op.equalIn (d + 2) 36 (.agg (mcells ms)) (.agg (mcells ms'))).run Try.prog w = .ok (decide (ms = ms')) w := by
  have hs : (sizeOf 5).run Try.prog w = .ok 1 w := by kernel_rfl
  have hu : Try.prog.underlying 36 = some (.array 8 5) := by kernel_rfl
  have hL := eqLoop8 d ms ms' h h' w (List.range' 0 8) (fun i hi => by simp at hi; omega)
  rw [all8 ms ms' h h'] at hL
  rw [Op.equalIn]
  simp only [Sem.run_bind, run_underlying hu, Result.andThen_ok, hs, Nat.mul_one]
  rw [Std.Legacy.Range.forIn_eq_forIn_range']
  simp only [Std.Legacy.Range.size, Nat.sub_zero, Nat.reduceAdd, Nat.reduceSub, Nat.div_one]
  rw [hL]
  by_cases hq : ms = ms'
  · simp [hq]
  · simp [hq]
theorem eqParts (n n' : Int) (ms ms' : List Int) (h : ms.length = 8) (h' : ms'.length = 8) (w : World) :
    (Op.equalIn 9999 36 (.agg ((dcells n ms).extract 1 9)) (.agg ((dcells n' ms').extract 1 9))).run Try.prog w = .ok (decide (ms = ms')) w := by
  rw [parts_of n ms h, parts_of n' ms' h']
  exact eqArr8 9997 ms ms' h h' w

set_option maxRecDepth 100000 in
set_option maxHeartbeats 400000 in
theorem eqB8_same (ms : List Int) (hms : ms.length = 8) (w : World) :
    Calls Try.prog 24 #[.agg (mcells ms), .agg (mcells ms)] w fun e w' => e = .returned (.bool true) ∧ Below w.heap.size w w' := by
  have hl := Lib.hid hms
  clear hms
  go_enter Try.func24, Try.ntmps24
  go_wp2
  go_loopw [5] (fun i wr => ∃ k : Nat, k ≤ 8 ∧ i = .int .i64 k ∧ Own wr w.heap.size (mcells ms) 36 ∧ Own wr (w.heap.size + 1) (mcells ms) 36 ∧ Below w.heap.size w wr) (fun i _ => (8 - intOf i).toNat)
  case atStart => exact ⟨0, by omega, rfl, Own.alloc (Own.new _ _ _) _, Own.at _ _ _ (by simp), ((Below.refl _ _).alloc (Nat.le_refl _) _).alloc (by simp) _⟩
  case round =>
    obtain ⟨k, hk, rfl, hO, hR, hB⟩ := hrel
    by_cases hlt : k < 8
    · have c1 := hO.cell k
      rw [mcells_get _ _ (by rw [hl.out]; exact hlt)] at c1
      have c2 := hR.cell k
      rw [mcells_get _ _ (by rw [hl.out]; exact hlt)] at c2
      go_wp2
      go_quiet (fail)
      go_wp2
      go_roundw
      case rel => exact ⟨k + 1, by omega, by go_num, hO.drewN _, hR.drewN _, Below.drewN hB _⟩
      case measure => simp [intOf]; omega
    · go_wp2
      go_ret
      exact ⟨rfl, hB⟩
set_option maxRecDepth 100000 in
theorem eqP_same (n : Int) (ms : List Int) (hms : ms.length = 8) (w : World) :
    Calls Try.prog 18 #[.agg (dcells n ms), .agg (dcells n ms)] w fun e w' => e = .returned (.bool true) ∧ Below w.heap.size w w' := by
  have hl := Lib.hid hms
  have c0 := dcells_zero n ms
  clear hms
  go_enter Try.func18, Try.ntmps18
  go_wp2_with (first
    | (refine wpList_load_mid rfl 36 (.tmp 10) rfl _ 1 rfl _ _ (Own.mates ((Own.new _ _ _).alloc _)) Try.underlying36 rfl (len8 hl.out) ?_)
    | (refine wpList_load_mid rfl 36 (.tmp 12) rfl _ 1 rfl _ _ (Own.mates (Own.at _ _ _ (by simp))) Try.underlying36 rfl (len8 hl.out) ?_)
    | (go_at_call 24; refine (eqB8_same ms hl.out _).mono ?_; rintro e w1 ⟨rfl, hB1⟩))
  go_ret
  exact ⟨rfl, (((Below.refl _ _).alloc (Nat.le_refl _) _).alloc (by simp) _).trans (hB1.mono (by simp; omega))⟩

/-- The first k of the numbers, and zer8 behind them. -/
def cpy8 (ms : List Int) : Nat → List Int
  | 0 => zer8
  | k + 1 => (cpy8 ms k).set k (ms.getD k 0)
theorem cpy8_len (ms : List Int) (k : Nat) : (cpy8 ms k).length = 8 := by
  induction k with
  | zero => rfl
  | succ k ih => simp [cpy8, ih]
theorem cpy8_end (ms : List Int) (h : ms.length = 8) : cpy8 ms 8 = ms := by
  obtain ⟨a0, a1, a2, a3, a4, a5, a6, a7, rfl⟩ := list8 ms h
  rfl
theorem many_parts (n : Int) (ms0 ms : List Int) (h0 : ms0.length = 8) (h : ms.length = 8) : setMany (dcells n ms0) 1 (mcells ms).toList = dcells n ms := by
  obtain ⟨a0, a1, a2, a3, a4, a5, a6, a7, rfl⟩ := list8 ms h
  obtain ⟨c0, c1, c2, c3, c4, c5, c6, c7, rfl⟩ := list8 ms0 h0
  kernel_rfl
/-- The mates of a diagram are stored, as a whole. -/
theorem wpList_store_parts {P : Program} {ops : Array Oper} {rest : List Oper} {o : Oper} {a : Act} {w : World} {Q : Exit → Act → World → Prop} (hgd : o.guard = none) (ty : TypeId) (x y : Operand) (ho : o.op = .store ty x y)
    (g : Nat) (n : Int) (ms ms0 : List Int) (hx : a.eval x = .pointer (some ⟨g, 1, none⟩)) (hy : a.eval y = .agg (mcells ms))
    (t : TypeId) (hg : Own w g (dcells n ms0) t) (h0 : ms0.length = 8) (h1 : ms.length = 8) (hi : (P.info? ty).map (·.size) = some (mcells ms).size)
    (h : ∀ w', Own w' g (dcells n ms) t → Only g w w' → wpList P ops Q rest (a.put o.dst undef) w') : wpList P ops Q (o :: rest) a w := by
  have hth : w.there g 1 (mcells ms).size := by
    intro j hj
    rw [m8 ms h1] at hj
    refine ⟨?_, hg.free _⟩
    rw [hg.cell, dcells_get n ms0 j (by omega)]
    rfl
  refine wpList_store_mid hgd ty x y ho g 1 (mcells ms) hx hy hth hi (one8 ms) (h _ ?_ (Only.many _ _ _))
  have := hg.many (mcells ms).toList 1
  rwa [many_parts n ms0 ms h0 h1] at this
theorem cellsI : Try.prog.cellsOf 2 = 1 := by kernel_rfl
theorem cellsB : Try.prog.cellsOf 5 = 1 := by kernel_rfl
section
open Go.ChangeShapes Go.WideShapes Go.ChangeAt
variable {H : Type} {enc : TypeId × Value → H} {w : World} {base : Nat} {spare : Nat → Bool} {held : Bool}
theorem cells8 : Try.prog.cellsOf 36 = 8 := by kernel_rfl
theorem bytes_of_cells8 (l : List Value) (h : l.length = 8) (hx : ∀ i, i < 8 → ∃ m, (l.drop i).take 1 = [Value.int .u8 m] ∧ (Lit.int .u8 m).wf = true) : ∃ ms : List Int, ms.length = 8 ∧ l = ms.map (Value.int .u8) ∧ Bytes ms := by
  have get : ∀ i (hi : i < l.length), ∃ m, l[i] = Value.int .u8 m ∧ (Lit.int .u8 m).wf = true := by
    intro i hi
    obtain ⟨m, hm, hw⟩ := hx i (by omega)
    have e : ((l.drop i).take 1)[0]? = some (Value.int .u8 m) := by rw [hm]; rfl
    refine ⟨m, ?_, hw⟩
    simpa [List.getElem?_take, List.getElem?_eq_getElem hi] using e
  refine ⟨l.map intOf, by simp [h], ?_, ?_⟩
  · apply List.ext_getElem (by simp)
    intro i h1 h2
    obtain ⟨m, hm, _⟩ := get i h1
    simp [hm, intOf]
  · intro x hxm
    rw [List.mem_map] at hxm
    obtain ⟨v, hv, rfl⟩ := hxm
    obtain ⟨i, hi, rfl⟩ := List.getElem_of_mem hv
    obtain ⟨m, hm, hw⟩ := get i hi
    rw [hm]
    exact bounds_u8 hw
end
end Go.Proofs.Ythjgcakpimbcbaa
