/- The program's test of diagrams with blobs. -/
import Derived.Test.YtbegolbognkefaaBlr
import Derived.Test.YtbegolbognkefaaEq
namespace Go.Proofs.Ytbegolbognkefaa
open Go.RowKit Go.Lib
set_option linter.unusedVariables false
set_option linter.unusedSimpArgs false
theorem blobs_of (n : Int) (ms : List Int) (bs : List Bool) (h : ms.length = 16) (hb : bs.length = 16) : (bcl n ms bs).extract 17 33 = bools bs := by
  unfold bcl bools
  apply Array.toList_inj.1
  simp only [Array.toList_extract, List.extract_eq_take_drop]
  rw [List.drop_append_of_le_length (by rw [dl17 h]; exact Nat.le_refl _), List.drop_of_length_le (by rw [dl17 h]; exact Nat.le_refl _), List.nil_append, List.take_of_length_le (by simp [hb])]
theorem dia_of (n : Int) (ms : List Int) (bs : List Bool) (h : ms.length = 16) : (bcl n ms bs).extract 0 17 = dcells n ms := by
  unfold bcl
  apply Array.toList_inj.1
  simp only [Array.toList_extract, List.extract_eq_take_drop, List.drop_zero]
  rw [List.take_append_of_le_length (by rw [dl17 h]; exact Nat.le_refl _), List.take_of_length_le (by rw [dl17 h]; exact Nat.le_refl _)]
theorem mates_ofB (n : Int) (ms : List Int) (bs : List Bool) (h : ms.length = 16) : (bcl n ms bs).extract 1 17 = mcells ms := by
  unfold bcl mcells
  apply Array.toList_inj.1
  simp only [Array.toList_extract, List.extract_eq_take_drop]
  rw [List.drop_append_of_le_length (by rw [dl17 h]; omega), List.take_append_of_le_length (by rw [List.length_drop, dl17 h]; exact Nat.le_refl _), List.take_of_length_le (by rw [List.length_drop, dl17 h]; exact Nat.le_refl _)]
  rfl
theorem part4b (bs : List Bool) (i : Nat) (hi : i < bs.length) (w : World) : (part 4 (bools bs) i).run Try.prog w = .ok (.bool (bs.getD i false)) w := by
  have ha : (isAgg 4).run Try.prog w = .ok false w := by kernel_rfl
  have hg := bools_get bs i hi
  unfold part
  simp [Sem.run_bind, ha, hg]
theorem eqLoopB (d : Nat) (bs cs : List Bool) (h : bs.length = 16) (h' : cs.length = 16) (w : World) (l : List Nat) (hl : ∀ i ∈ l, i < 16) :
    (forIn l ((none : Option Bool), ()) fun i __s => (do
            let __do_lift ← part 4 (bools bs) i
            let __do_lift_1 ← part 4 (bools cs) i
            let __do_lift ← Op.equalIn (d + 1) 4 __do_lift __do_lift_1
            if (!__do_lift) = true then pure (ForInStep.done (some false, ())) else pure (ForInStep.yield (none, ())) : Sem (ForInStep (Option Bool × Unit)))).run Try.prog w
      = .ok (if l.all (fun i => bs.getD i false == cs.getD i false) then (none, ()) else (some false, ())) w := by
  induction l with
  | nil => simp
  | cons i l ih =>
    have hi := hl i (by simp)
    have ih' := ih (fun j hj => hl j (by simp [hj]))
    rw [List.forIn_cons]
    simp only [Sem.run_bind, part4b bs i (by omega), part4b cs i (by omega), Result.andThen_ok, run_equalIn_bool w d 4 _ _ Try.underlying4]
    by_cases hq : bs.getD i false = cs.getD i false
    · have hb : (bs.getD i false == cs.getD i false) = true := by simpa using hq
      rw [hb]
      simp only [Bool.not_true, Bool.false_eq_true, if_false, Sem.run_pure, Result.andThen_ok, ih', List.all_cons, hb, Bool.true_and]
    · have hb : (bs.getD i false == cs.getD i false) = false := by simpa using hq
      rw [hb]
      simp only [Bool.not_false, if_true, Sem.run_pure, Result.andThen_ok, List.all_cons, hb, Bool.false_and]
      rfl
theorem all16B (bs cs : List Bool) (h : bs.length = 16) (h' : cs.length = 16) : (List.range' 0 16).all (fun i => bs.getD i false == cs.getD i false) = decide (bs = cs) := by
  rw [Bool.eq_iff_iff, List.all_eq_true, decide_eq_true_iff]
  constructor
  · intro hq
    refine list_ext _ _ false (by omega) (fun i hi => ?_)
    simpa using hq i (by simp; omega)
  · rintro rfl i _
    simp
theorem eqArrB (d : Nat) (bs cs : List Bool) (h : bs.length = 16) (h' : cs.length = 16) (w : World) :
    (Op.equalIn (d + 2) 33 (.agg (bools bs)) (.agg (bools cs))).run Try.prog w = .ok (decide (bs = cs)) w := by
  have hs : (sizeOf 4).run Try.prog w = .ok 1 w := by kernel_rfl
  have hu : Try.prog.underlying 33 = some (.array 16 4) := by kernel_rfl
  have hL := eqLoopB d bs cs h h' w (List.range' 0 16) (fun i hi => by simp at hi; omega)
  rw [all16B bs cs h h'] at hL
  rw [Op.equalIn]
  simp only [Sem.run_bind, run_underlying hu, Result.andThen_ok, hs, Nat.mul_one]
  rw [Std.Legacy.Range.forIn_eq_forIn_range']
  simp only [Std.Legacy.Range.size, Nat.sub_zero, Nat.reduceAdd, Nat.reduceSub, Nat.div_one]
  rw [hL]
  by_cases hq : bs = cs
  · simp [hq]
  · simp [hq]
set_option maxRecDepth 100000 in
set_option maxHeartbeats 1000000 in
theorem isBI_ok (n : Int) (ms : List Int) (bs : List Bool) (hms : ms.length = 16) (hbs : bs.length = 16) (hb : Bytes ms) (hd : isD n ms = true) (w : World) :
    Calls Try.prog 20 #[.agg (bcl n ms bs)] w fun e w' => e = .returned (.bool (isB n ms bs)) ∧ Below w.heap.size w w' := by
  have hn := net_of n ms hms hb hd
  have hl := Lib.hid hms
  have hk := Lib.hid hbs
  have hc := Lib.hid (fun w => isI_any n ms hms hb w)
  rw [hd] at hc
  have ht := Lib.hid (fun w => tobI_any n ms bs hms hbs hb hd w)
  have hnl := Lib.hid (nb_len n ms bs)
  have hbo := Lib.hid (show ∀ w, Calls Try.prog 45 #[.string (strOfNums (LB n ms bs))] w fun e w' => e = .returned (.tuple #[.agg (bcl n ms (nb n ms bs)), .bool true]) ∧ Below w.heap.size w w' from fun w => by
    have := botI_any (strOfNums (LB n ms bs)) (by
      have h1 := hn.bd
      have : (strOfNums (LB n ms bs)).data.toList.length = (LB n ms bs).length := by rw [strOfNums_data, List.length_map]
      rw [size_list, LB_len n ms bs (by omega)] at this
      omega) w
    rw [LB_u8] at this
    refine this.mono (fun e w' h => ?_)
    unfold BotPost at h
    rw [bot_LB hms hd hn bs] at h
    exact h)
  have hiff := Lib.hid (show decide (nb n ms bs = bs) = isB n ms bs by
    rw [Bool.eq_iff_iff, decide_eq_true_eq]; exact nb_iff hd hn bs hbs)
  have hcl := nb_len n ms bs
  generalize nb n ms bs = cs at *
  have z1 : ((bcl n ms cs).extract 0 17)[0]? = some (.int .i64 n) := by rw [dia_of _ _ _ hms]; exact dcells_zero _ _
  have z2 : ((bcl n ms bs).extract 0 17)[0]? = some (.int .i64 n) := by rw [dia_of _ _ _ hms]; exact dcells_zero _ _
  have z3 : ∀ w : World, (Op.equalIn 9998 22 (.agg ((bcl n ms cs).extract 1 17)) (.agg ((bcl n ms bs).extract 1 17))).run Try.prog w = .ok true w := fun w => by
    rw [mates_ofB _ _ _ hms, mates_ofB _ _ _ hms]
    have := eqArr 9996 ms ms hms hms w
    rwa [decide_eq_true rfl] at this
  have z4 : ∀ w : World, (Op.equalIn 9999 33 (.agg ((bcl n ms cs).extract 17 33)) (.agg ((bcl n ms bs).extract 17 33))).run Try.prog w = .ok (isB n ms bs) w := fun w => by
    rw [blobs_of _ _ _ hms hcl, blobs_of _ _ _ hms hbs, ← hiff.out]
    exact eqArrB 9997 cs bs hcl hbs w
  obtain ⟨R, hR⟩ : ∃ R, isB n ms bs = R := ⟨_, rfl⟩
  rw [hR] at z4 ⊢
  clear hms hbs hb hd hn hcl hR hiff
  go_enter Try.func20, Try.ntmps20
  go_wp2_with (first
    | (refine wpList_load_part rfl 28 _ rfl _ 0 rfl (dcells _ _) _ (Own.bdia (Own.new _ _ _) (hl.out)) Try.underlying28 rfl (row26 (d17 _ _ (hl.out))) ?_)
    | ((go_at_call 41; ((with_reducible refine (hc.out _).mono ?_); rintro e w1 ⟨rfl, hB1⟩)); have hO1 : Own w1 w.heap.size (bcl n ms bs) 38 := (Own.new _ _ _).below hB1 (by simp))
    | (refine wpList_load_row rfl 38 _ rfl _ rfl 38 _ (0, 0) _ (hO1) Try.underlying38 rfl (rowB (b33 _ _ _ (hl.out) (hk.out))) ?_)
    | ((go_at_call 46; ((with_reducible refine (ht.out _).mono ?_); rintro e w2 ⟨rfl, hB2⟩)); have hO2 := hO1.below hB2 hO1.lt)
    | ((go_at_call 45; ((with_reducible refine (hbo.out _).mono ?_); rintro e w3 ⟨rfl, hB3⟩)); have hO3 := hO2.below hB3 hO2.lt)
    | (refine wpList_store_own rfl 38 _ _ rfl _ _ rfl rfl 38 _ (Own.new w3 _ _) (rowB (b33 _ _ _ (hl.out) (hnl.out))) (zb _ _ _ hl.out hnl.out) (bcl_one _ _ _) ?_; intro w4 hO4 hN4)
    | (refine wpList_load_row rfl 38 _ rfl _ rfl 38 _ (0, 0) _ (hO4) Try.underlying38 rfl (rowB (b33 _ _ _ (hl.out) (hnl.out))) ?_)
    | (refine wpList_load_row rfl 38 _ rfl _ rfl 38 _ (0, 0) _ ((hO3.alloc _).only hN4 (Nat.ne_of_lt hO3.lt)) Try.underlying38 rfl (rowB (b33 _ _ _ (hl.out) (hk.out))) ?_))
  all_goals
    go_ret
    have b0 : Below w.heap.size w (w.alloc (.cells (bcl n ms bs) 38)) := (Below.refl _ _).alloc (Nat.le_refl _) _
    have b1 : Below w.heap.size w w1 := b0.trans (hB1.mono b0.size)
    have b2 : Below w.heap.size w w2 := b1.trans (hB2.mono b1.size)
    have b3 : Below w.heap.size w w3 := b2.trans (hB3.mono b2.size)
    have b4 : Below w.heap.size w w4 := (b3.alloc b3.size _).trans (hN4.below.mono b3.size)
    refine ⟨?_, b4⟩
    clear hB1 hB2 hB3 hN4 hO1 hO2 hO3 hO4 hc b0 b1 b2 b3 b4 z3 z4 ht hbo
    simp_all
set_option maxRecDepth 100000 in
theorem isBI_bad (n : Int) (ms : List Int) (bs : List Bool) (hms : ms.length = 16) (hb : Bytes ms) (hd : isD n ms = false) (w : World) :
    Calls Try.prog 20 #[.agg (bcl n ms bs)] w fun e w' => e = .returned (.bool false) ∧ Below w.heap.size w w' := by
  have hl := Lib.hid hms
  have hc := Lib.hid (fun w => isI_any n ms hms hb w)
  rw [hd] at hc
  clear hms hb hd
  go_enter Try.func20, Try.ntmps20
  go_wp2_with (first
    | (refine wpList_load_part rfl 28 _ rfl _ 0 rfl (dcells _ _) _ (Own.bdia (Own.new _ _ _) (hl.out)) Try.underlying28 rfl (row26 (d17 _ _ (hl.out))) ?_)
    | ((go_at_call 41; ((with_reducible refine (hc.out _).mono ?_); rintro e w1 ⟨rfl, hB1⟩))))
  go_ret
  exact ⟨rfl, ((Below.refl _ _).alloc (Nat.le_refl _) _).trans (hB1.mono (by simp))⟩
theorem isBlI_any (n : Int) (ms : List Int) (bs : List Bool) (hms : ms.length = 16) (hbs : bs.length = 16) (hb : Bytes ms) (w : World) :
    Calls Try.prog 20 #[.agg (bcl n ms bs)] w fun e w' => e = .returned (.bool (isB n ms bs)) ∧ Below w.heap.size w w' := by
  cases hd : isD n ms with
  | true => exact isBI_ok n ms bs hms hbs hb hd w
  | false => rw [isB_d n ms bs hd]; exact isBI_bad n ms bs hms hb hd w
end Go.Proofs.Ytbegolbognkefaa
