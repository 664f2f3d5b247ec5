/- Words and laws of a partition in memory: a size and eight bytes; the laws' own copies and comparisons of them; == on them. -/
import Derived.Test.YtlgdeciikliihaaLawD
import Derived.Test.YtlgdeciikliihaaEq
import Derived.Test.YtlgdeciikliihaaText
import Derived.ProofKit
import Derived.OpenShut
namespace Go.Proofs.Ytlgdeciikliihaa
open Go.RowKit
def zer8 : List Int := List.replicate 8 0
theorem zlen8 : zer8.length = 8 := rfl
/-- The zero value's cells. -/
def zp : Array Value := dcells 0 zer8
theorem one8 (ms : List Int) : (mcells ms).all (·.oneCell') = true := by simp [mcells, Value.oneCell']
theorem zp9 : zp.size = 9 := rfl
theorem z_eq8 {c : Array Value} (h : c.size = 9) : zp.size = c.size := by rw [h]; rfl
theorem rowP {c : Array Value} (h : c.size = 9) : (Try.prog.info? 31).map (·.size) = some c.size := by
  rw [h]; kernel_rfl
theorem d9 (n : Int) (ms : List Int) (h : ms.length = 8) : (dcells n ms).size = 9 := by rw [dcells_size, h]

theorem row8 {c : Array Value} (h : c.size = 8) : (Try.prog.info? 25).map (·.size) = some c.size := by
  rw [h]; kernel_rfl
theorem m8 (ms : List Int) (h : ms.length = 8) : (mcells ms).size = 8 := by rw [mcells_size, h]

theorem list8 (ms : List Int) (h : ms.length = 8) : ∃ a0 a1 a2 a3 a4 a5 a6 a7 : Int, ms = [a0, a1, a2, a3, a4, a5, a6, a7] := by
  match ms, h with
  | [a0, a1, a2, a3, a4, a5, a6, a7], _ => exact ⟨a0, a1, a2, a3, a4, a5, a6, a7, rfl⟩


theorem len8 {ms : List Int} (h : ms.length = 8) : (Try.prog.info? 25).map (·.size) = some (ms.map (Value.int .u8)).length := by
  rw [List.length_map, h]; kernel_rfl

theorem builtP0 : Try.prog.built 31 [] = some zp := by kernel_rfl
theorem builtP1 (n : Int) : Try.prog.built 31 [(0, .int .i64 n)] = some (dcells n zer8) := by kernel_rfl
theorem parts_of (n : Int) (ms : List Int) (h : ms.length = 8) : (dcells n ms).extract 1 9 = mcells ms := by
  obtain ⟨a0, a1, a2, a3, a4, a5, a6, a7, rfl⟩ := list8 ms h
  kernel_rfl
theorem eqLoop8 (d : Nat) (ms ms' : List Int) (h : ms.length = 8) (h' : ms'.length = 8) (w : World) (l : List Nat) (hl : ∀ i ∈ l, i < 8) :
    (forIn l ((none : Option Bool), ()) fun i __s => (do
            let __do_lift ← part 5 (mcells ms) i
            let __do_lift_1 ← part 5 (mcells ms') i
            let __do_lift ← Op.equalIn (d + 1) 5 __do_lift __do_lift_1
            if (!__do_lift) = true then pure (ForInStep.done (some false, ())) else pure (ForInStep.yield (none, ())) : Sem (ForInStep (Option Bool × Unit)))).run Try.prog w
      = .ok (if l.all (fun i => ms.getD i 0 == ms'.getD i 0) then (none, ()) else (some false, ())) w := by
  induction l with
  | nil => simp
  | cons i l ih =>
    have hi := hl i (by simp)
    have ih' := ih (fun j hj => hl j (by simp [hj]))
    rw [List.forIn_cons]
    simp only [Sem.run_bind, part5 ms i (by omega), part5 ms' i (by omega), Result.andThen_ok, run_equalIn_int w d 5 .u8 .u8 _ _ Try.underlying5]
    by_cases hq : ms.getD i 0 = ms'.getD i 0
    · have hb : (ms.getD i 0 == ms'.getD i 0) = true := by simpa using hq
      rw [hb]
      simp only [Bool.not_true, Bool.false_eq_true, if_false, Sem.run_pure, Result.andThen_ok, ih', List.all_cons, hb, Bool.true_and]
    · have hb : (ms.getD i 0 == ms'.getD i 0) = false := by simpa using hq
      rw [hb]
      simp only [Bool.not_false, if_true, Sem.run_pure, Result.andThen_ok, List.all_cons, hb, Bool.false_and]
      rfl
theorem all8 (ms ms' : List Int) (h : ms.length = 8) (h' : ms'.length = 8) : (List.range' 0 8).all (fun i => ms.getD i 0 == ms'.getD i 0) = decide (ms = ms') := by
  rw [Bool.eq_iff_iff, List.all_eq_true, decide_eq_true_iff]
  constructor
  · intro hq
    apply List.ext_getElem (by omega)
    intro i h1 h2
    have := hq i (by simp; omega)
    simpa [h1, h2] using this
  · rintro rfl i _
    simp
theorem eqArr8 (d : Nat) (ms ms' : List Int) (h : ms.length = 8) (h' : ms'.length = 8) (w : World) :
    (Op.equalIn (d + 2) 25 (.agg (mcells ms)) (.agg (mcells ms'))).run Try.prog w = .ok (decide (ms = ms')) w := by
  have hs : (sizeOf 5).run Try.prog w = .ok 1 w := by kernel_rfl
  have hu : Try.prog.underlying 25 = some (.array 8 5) := by kernel_rfl
  have hL := eqLoop8 d ms ms' h h' w (List.range' 0 8) (fun i hi => by simp at hi; omega)
  rw [all8 ms ms' h h'] at hL
  rw [Op.equalIn]
  simp only [Sem.run_bind, run_underlying hu, Result.andThen_ok, hs, Nat.mul_one]
  rw [Std.Legacy.Range.forIn_eq_forIn_range']
  simp only [Std.Legacy.Range.size, Nat.sub_zero, Nat.reduceAdd, Nat.reduceSub, Nat.div_one]
  rw [hL]
  by_cases hq : ms = ms'
  · simp [hq]
  · simp [hq]
theorem eqParts (n n' : Int) (ms ms' : List Int) (h : ms.length = 8) (h' : ms'.length = 8) (w : World) :
    (Op.equalIn 9999 25 (.agg ((dcells n ms).extract 1 9)) (.agg ((dcells n' ms').extract 1 9))).run Try.prog w = .ok (decide (ms = ms')) w := by
  rw [parts_of n ms h, parts_of n' ms' h']
  exact eqArr8 9997 ms ms' h h' w

/-- The first k of the numbers, and zer8 behind them. -/
def cpy8 (ms : List Int) : Nat → List Int
  | 0 => zer8
  | k + 1 => (cpy8 ms k).set k (ms.getD k 0)
theorem cpy8_len (ms : List Int) (k : Nat) : (cpy8 ms k).length = 8 := by
  induction k with
  | zero => rfl
  | succ k ih => simp [cpy8, ih]
theorem cpy8_end (ms : List Int) (h : ms.length = 8) : cpy8 ms 8 = ms := by
  obtain ⟨a0, a1, a2, a3, a4, a5, a6, a7, rfl⟩ := list8 ms h
  rfl
set_option maxRecDepth 100000 in
set_option maxHeartbeats 400000 in
theorem toB8_any (ms : List Int) (hms : ms.length = 8) (w : World) :
    Calls Try.prog 29 #[.agg (mcells ms)] w fun e w' => e = .returned (.agg (mcells ms)) ∧ Below w.heap.size w w' := by
  have hl := Lib.hid hms
  clear hms
  go_enter Try.func29, Try.ntmps29
  go_wp2
  go_loopw [4] (fun i wr => ∃ k : Nat, k ≤ 8 ∧ i = .int .i64 k ∧ Own wr w.heap.size (mcells ms) 25 ∧ Own wr (w.heap.size + 1) (mcells zer8) 25 ∧ Own wr (w.heap.size + 2) (mcells (cpy8 ms k)) 25 ∧ Below w.heap.size w wr) (fun i _ => (8 - intOf i).toNat)
  case atStart => exact ⟨0, by omega, rfl, Own.alloc (Own.alloc (Own.new _ _ _) _) _, Own.alloc (Own.at _ _ _ (by simp)) _, Own.at _ _ _ (by simp), (((Below.refl _ _).alloc (Nat.le_refl _) _).alloc (by simp) _).alloc (by simp; omega) _⟩
  case round =>
    obtain ⟨k, hk, rfl, hO, hR, hT, hB⟩ := hrel
    by_cases hlt : k < 8
    · have c1 := hO.cell k
      rw [mcells_get _ _ (by rw [hl.out]; exact hlt)] at c1
      have c2 := hT.cell k
      rw [mcells_get _ _ (by rw [cpy8_len]; exact hlt)] at c2
      have f2 := hT.free k
      have hT2 := hT.set k (.int .u8 (ms.getD k 0))
      rw [mcells_set] at hT2
      have hO2 := hO.other (a := ⟨w.heap.size + 2, k, none⟩) (by simp) (.int .u8 (ms.getD k 0))
      have hR2 := hR.other (a := ⟨w.heap.size + 2, k, none⟩) (by simp) (.int .u8 (ms.getD k 0))
      have hB2 := hB.setCell (p := ⟨w.heap.size + 2, k, none⟩) (by simp) (.int .u8 (ms.getD k 0))
      have K1 := Lib.hid hT2
      have K2 := Lib.hid hO2
      have K3 := Lib.hid hR2
      clear hT2 hO2 hR2
      go_wp2
      go_roundw
      case rel => exact ⟨k + 1, by omega, by go_num, K2.out, K3.out, K1.out, hB2⟩
      case measure => simp [intOf]; omega
    · have hk8 : k = 8 := by omega
      subst hk8
      rw [cpy8_end _ hl.out] at hT
      go_wp2_with (first
        | (refine wpList_load_row rfl 25 (.tmp 3) rfl _ rfl 25 _ (0, 0) _ hT Try.underlying25 rfl (row8 (m8 _ hl.out)) ?_)
        | (refine wpList_store_own rfl 25 (.tmp 2) (.tmp 14) rfl _ _ rfl rfl 25 _ hR (row8 (m8 _ hl.out)) (by rw [m8 _ hl.out]; rfl) (one8 _) ?_; intro w4 hO4 hN4))
      refine bodyPost_ret (v := .agg (mcells ms)) (results_cell_row rfl _ _ _ _ _ (0, 0) _ rfl hO4 Try.underlying25 rfl (row8 (m8 _ hl.out))) rfl ⟨rfl, hB.trans (hN4.below.mono (by omega))⟩
/-- A diagram's number of cells, in the laws' own type. -/
theorem rowLP {c : Array Value} (h : c.size = 9) : (Try.prog.info? 27).map (·.size) = some c.size := by
  rw [h]; kernel_rfl
theorem many_parts (n : Int) (ms0 ms : List Int) (h0 : ms0.length = 8) (h : ms.length = 8) : setMany (dcells n ms0) 1 (mcells ms).toList = dcells n ms := by
  obtain ⟨a0, a1, a2, a3, a4, a5, a6, a7, rfl⟩ := list8 ms h
  obtain ⟨c0, c1, c2, c3, c4, c5, c6, c7, rfl⟩ := list8 ms0 h0
  kernel_rfl
/-- The mates of a diagram are stored, as a whole. -/
theorem wpList_store_parts {P : Program} {ops : Array Oper} {rest : List Oper} {o : Oper} {a : Act} {w : World} {Q : Exit → Act → World → Prop} (hgd : o.guard = none) (ty : TypeId) (x y : Operand) (ho : o.op = .store ty x y)
    (g : Nat) (n : Int) (ms ms0 : List Int) (hx : a.eval x = .pointer (some ⟨g, 1, none⟩)) (hy : a.eval y = .agg (mcells ms))
    (t : TypeId) (hg : Own w g (dcells n ms0) t) (h0 : ms0.length = 8) (h1 : ms.length = 8) (hi : (P.info? ty).map (·.size) = some (mcells ms).size)
    (h : ∀ w', Own w' g (dcells n ms) t → Only g w w' → wpList P ops Q rest (a.put o.dst undef) w') : wpList P ops Q (o :: rest) a w := by
  have hth : w.there g 1 (mcells ms).size := by
    intro j hj
    rw [m8 ms h1] at hj
    refine ⟨?_, hg.free _⟩
    rw [hg.cell, dcells_get n ms0 j (by omega)]
    rfl
  refine wpList_store_mid hgd ty x y ho g 1 (mcells ms) hx hy hth hi (one8 ms) (h _ ?_ (Only.many _ _ _))
  have := hg.many (mcells ms).toList 1
  rwa [many_parts n ms0 ms h0 h1] at this
set_option maxRecDepth 100000 in
set_option maxHeartbeats 400000 in
theorem toP_any (n : Int) (ms : List Int) (hms : ms.length = 8) (w : World) :
    Calls Try.prog 9 #[.agg (dcells n ms)] w fun e w' => e = .returned (.agg (dcells n ms)) ∧ Below w.heap.size w w' := by
  have hl := Lib.hid hms
  have c0 := dcells_zero n ms
  clear hms
  go_enter Try.func9, Try.ntmps9
  go_wp2_with (first
    | (refine wpList_load_mid rfl 25 (.tmp 7) rfl _ 1 rfl _ _ (Own.mates (((Own.new _ _ _).alloc _).alloc _)) Try.underlying25 rfl (len8 hl.out) ?_)
    | (go_at_call 29; refine (toB8_any ms hl.out _).mono ?_; rintro e w1 ⟨rfl, hB1⟩)
    | (refine wpList_store_parts rfl 25 (.tmp 10) (.tmp 9) rfl (w.heap.size + 1 + 1) n ms zer8 rfl rfl 31 ((Own.at _ _ _ (by simp)).below hB1 (by simp)) zlen8 hl.out (row8 (m8 _ hl.out)) ?_; intro w2 hO2 hN2)
    | (refine wpList_load_row rfl 31 _ rfl _ rfl 31 _ (0, 0) _ (hO2) Try.underlying31 rfl (rowP (d9 _ _ (hl.out))) ?_)
    | (refine wpList_store_own rfl 31 _ _ rfl _ _ rfl rfl 31 _ (((Own.alloc (Own.at (w.alloc _) _ _ (by simp)) _).below hB1 (by simp <;> omega)).only hN2 (by omega)) (rowP (d9 _ _ (hl.out))) (z_eq8 (d9 _ _ hl.out)) (dcells_one _ _) ?_; intro w3 hO3 hN3))
  refine bodyPost_ret (v := .agg (dcells n ms)) (results_cell_row rfl _ _ _ _ _ (0, 0) _ rfl (hO3) Try.underlying31 rfl (rowP (d9 _ _ (hl.out)))) rfl (⟨rfl, ?_⟩)
  have b0 : Below w.heap.size w (((w.alloc (.cells (dcells n ms) 27)).alloc (.cells zp 31)).alloc (.cells (dcells n zer8) 31)) := (((Below.refl _ _).alloc (Nat.le_refl _) _).alloc (by simp) _).alloc (by simp; omega) _
  have b1 : Below w.heap.size w w1 := b0.trans (hB1.mono b0.size)
  exact (b1.trans (hN2.below.mono (by omega))).trans (hN3.below.mono (by omega))

theorem cellsI : Try.prog.cellsOf 2 = 1 := by kernel_rfl
theorem cellsB : Try.prog.cellsOf 5 = 1 := by kernel_rfl
section
open Go.ChangeShapes Go.WideShapes Go.ChangeAt
variable {H : Type} {enc : TypeId × Value → H} {w : World} {base : Nat} {spare : Nat → Bool} {held : Bool}
theorem cellsLP : Try.prog.cellsOf 27 = 9 := by kernel_rfl
theorem cells8 : Try.prog.cellsOf 25 = 8 := by kernel_rfl
theorem bytes_of_cells8 (l : List Value) (h : l.length = 8) (hx : ∀ i, i < 8 → ∃ m, (l.drop i).take 1 = [Value.int .u8 m] ∧ (Lit.int .u8 m).wf = true) : ∃ ms : List Int, ms.length = 8 ∧ l = ms.map (Value.int .u8) ∧ Bytes ms := by
  have get : ∀ i (hi : i < l.length), ∃ m, l[i] = Value.int .u8 m ∧ (Lit.int .u8 m).wf = true := by
    intro i hi
    obtain ⟨m, hm, hw⟩ := hx i (by omega)
    have e : ((l.drop i).take 1)[0]? = some (Value.int .u8 m) := by rw [hm]; rfl
    refine ⟨m, ?_, hw⟩
    simpa [List.getElem?_take, List.getElem?_eq_getElem hi] using e
  refine ⟨l.map intOf, by simp [h], ?_, ?_⟩
  · apply List.ext_getElem (by simp)
    intro i h1 h2
    obtain ⟨m, hm, _⟩ := get i h1
    simp [hm, intOf]
  · intro x hxm
    rw [List.mem_map] at hxm
    obtain ⟨v, hv, rfl⟩ := hxm
    obtain ⟨i, hi, rfl⟩ := List.getElem_of_mem hv
    obtain ⟨m, hm, hw⟩ := get i hi
    rw [hm]
    exact bounds_u8 hw
set_option maxRecDepth 100000 in
theorem open_partition {r : Reach} {b0 : Nat} {v : Value} {d : DataW H} {p : List MemPlace} (hv : Value.okWide Try.prog w r b0 27 v) (h : DataW.Trod enc Try.prog w base spare held 27 v d p) :
    ∃ (n : Int) (ms : List Int), v = .agg (dcells n ms) ∧ (Lit.int .i64 n).wf = true ∧ ms.length = 8 ∧ Bytes ms := by
  obtain ⟨cs, rfl, hsz⟩ := okWide_struct Try.underlying27 hv
  obtain ⟨l⟩ := cs
  obtain ⟨fuel, hf⟩ := h
  obtain ⟨xs, m, _, hx, _, hlen, hg⟩ := DataW.trod_struct Try.underlying27 hf
  rw [cellsLP] at hsz
  have hl : l.length = 9 := by simpa using hsz
  match xs, hlen with
  | [y0, y1], _ =>
    have g0 : DataW.trod enc Try.prog w base spare held m 2 ((l.drop 0).take (Try.prog.cellsOf 2)) = some y0 := hg 0 _ rfl
    have g1 : DataW.trod enc Try.prog w base spare held m 25 ((l.drop 1).take (Try.prog.cellsOf 25)) = some y1 := hg 1 _ rfl
    obtain ⟨n, e0, _, wn⟩ := DataW.trod_int Try.underlying2 g0
    obtain ⟨ys, m2, _, _, _, hn8, hel⟩ := DataW.trod_array Try.underlying25 g1
    rw [cellsI] at e0
    rw [cells8] at hel
    obtain ⟨ms, hms, hE, hB⟩ := bytes_of_cells8 ((l.drop 1).take 8) (by simp; omega) (by
      intro i hi
      have h2 := hel i hi
      rw [cellsB] at h2
      have : ys[i]? = some (ys[i]'(by omega)) := List.getElem?_eq_getElem (by omega)
      rw [this] at h2
      obtain ⟨x, ex, _, wx⟩ := DataW.trod_int Try.underlying5 h2
      exact ⟨x, by simpa using ex, wx⟩)
    refine ⟨n, ms, ?_, wn, hms, hB⟩
    unfold dcells
    rw [← hE]
    congr 1
    match l, hl with
    | a :: t, hl =>
      simp at e0 hl
      rw [e0]
      simp [List.take_of_length_le (show t.length ≤ 8 by omega)]
end
end Go.Proofs.Ytlgdeciikliihaa
