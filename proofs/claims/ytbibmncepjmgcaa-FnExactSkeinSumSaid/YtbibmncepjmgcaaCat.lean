/- Lists that are joined: slices.Grow from nothing, slices.Concat; append to a list that may be nil. -/
import Derived.Test.YtbibmncepjmgcaaIntsAt
import Derived.Test.YtbibmncepjmgcaaKl
import Derived.Lib.AppendZerosOnto
import Derived.IntWalk
namespace Go.Proofs.Ytbibmncepjmgcaa
open Go.RowKit
set_option linter.unusedVariables false
/-- A list of numbers that the call has made, or nil. -/
def RowI (w : World) (base : Nat) (v : Value) (xs : List Int) : Prop := w.ownsRow base 2 1 v xs.length (xs.map (Value.int .i64))
theorem RowI.nil (w : World) (base : Nat) : RowI w base (.slice none 0 0) [] := World.ownsRow_nil _ _ _ _
theorem RowI.mn {w : World} {base B : Nat} {v : Value} {xs : List Int} (h : RowI w base v xs) (hb : B ≤ base) : ∃ p cap, v = .slice p xs.length cap ∧ Mn w B p xs := by
  by_cases hv : v = .slice none 0 0
  · rcases h.2 with ⟨_, h0⟩ | ⟨g, cap, cur, hv', _⟩
    · have : xs = [] := List.eq_nil_of_length_eq_zero h0
      subst this
      exact ⟨none, 0, hv, Mn.nil _ _⟩
    · rw [hv] at hv'; cases hv'
  · obtain ⟨g, cap, rfl, hI⟩ := Ints.of_owns h hv
    exact ⟨_, cap, rfl, Mn.ints hb hI⟩
theorem RowI.blk {w : World} {base : Nat} {v : Value} {xs : List Int} (h : RowI w base v xs) (k : Nat) (e : v.ownBlock = some k) : base ≤ k := by
  rcases h.2 with ⟨hv, _⟩ | ⟨g, cap, cur, hv, hb, _⟩
  · rw [hv] at e; cases e
  · rw [hv] at e; cases e; exact hb
theorem RowI.alloc {w : World} {base : Nat} {v : Value} {xs : List Int} (h : RowI w base v xs) (o : Obj) : RowI (w.alloc o) base v xs :=
  World.ownsRow.kept h (World.grownBy_alloc w o none) (by cases v.ownBlock <;> simp)
theorem RowI.one (w : World) (base : Nat) (x : Int) {n : Nat} (hn : w.heap.size = n) (hb : base ≤ n) : RowI (w.alloc (.cells #[.int .i64 x] 2)) base (.slice (some ⟨n, 0, none⟩) 1 1) [x] := by
  subst hn
  exact ⟨by simp, .inr ⟨w.heap.size, 1, _, rfl, hb, Own.new w #[.int .i64 x] 2, Nat.le_refl _, by unfold maxLen; omega, rfl, by simp⟩⟩
theorem one_cell (w : World) (x : Int) {n : Nat} (hn : w.heap.size = n) : ∀ j, j < [x].length → (w.alloc (.cells #[.int .i64 x] 2)).cell? ((⟨n, 0, none⟩ : Addr).add j) = some (.int .i64 ([x].getD j 0)) := by
  subst hn
  intro j hj
  obtain rfl : j = 0 := by simpa using hj
  exact (Own.new w #[.int .i64 x] 2).cell 0
theorem wpList_append_row {ops : Array Oper} {rest : List Oper} {o : Oper} {a : Act} {w : World} {Q : Exit → Act → World → Prop} (hgd : o.guard = none) (s x : Operand)
    (ho : o.op = .call { callee := .builtin .append, args := #[s, x], argTypes := #[34, 34] })
    (base : Nat) (v : Value) (xs ys : List Int) (hs : a.eval s = v) (hi : RowI w base v xs) (ad : Addr) (c : Nat)
    (hx : a.eval x = .slice (some ad) ys.length c) (hy : ∀ j, j < ys.length → w.cell? (ad.add j) = some (.int .i64 (ys.getD j 0))) (hl : xs.length + ys.length < 2097152) (hbase : base ≤ w.heap.size)
    (h : ∀ v' w', RowI w' base v' (xs ++ ys) → w.grownBy w' v.ownBlock → wpList Try.prog ops Q rest (a.put o.dst v') w') : wpList Try.prog ops Q (o :: rest) a w := by
  obtain ⟨i0, hi0, hz0, hz1, hz2⟩ := info_parts info64
  refine wpList_append_own_at w hgd s x 34 ho base 2 i0 (.int .i64 0) 1 8 Try.underlying34 hi0 hz0 hz1 hz2 rfl (by decide) _ _ _ hs hi ad ys.length c (ys.map (Value.int .i64)) hx (by simp) ?_ (by simp [Value.oneCell']) (by unfold maxLen; omega) (by omega) hbase ?_
  · intro j u hj
    have hlt : j < ys.length := by have := (List.getElem?_eq_some_iff.1 hj).1; simpa using this
    rw [hy j hlt, ← hj]
    simp [hlt]
  · intro v' w' hown hgr hn hat
    rw [← List.length_append, ← List.map_append] at hown
    exact h v' w' hown hgr
set_option maxRecDepth 100000 in
set_option maxHeartbeats 2000000 in
theorem growI_any (n : Nat) (hn : n ≤ 1048576) (w : World) :
    Calls Try.prog 102 #[.slice none 0 0, .int .i64 n] w fun e w' => ∃ v, e = .returned v ∧ RowI w' w.heap.size v [] ∧ Below w.heap.size w w' := by
  by_cases h0 : n = 0
  · subst h0
    go_enter Try.func102, Try.ntmps102
    go_wp2
    go_ret
    exact ⟨_, rfl, RowI.nil _ _, Below.refl _ _⟩
  · obtain ⟨i0, hi0, hz0, hz1, hz2⟩ := info_parts info64
    have hrz : ∀ ty, (Builtin.append_ #[34, 3] ty #[.slice none 0 0, .int .i64 (n : Int)]).run Try.prog w = .ok (.slice (some ⟨w.heap.size, 0, none⟩) n (grownCap w n 0 2)) (w.drew.alloc (.cells (Builtin.zeroCells (Value.int .i64 0).cells n ++ Builtin.zeroCells (Value.int .i64 0).cells (grownCap w n 0 2 - n)) 2)) := fun ty =>
      Lib.run_append_nil_zeros w 34 3 ty 2 i0 (.int .i64 0) .i64 .i64 Try.underlying34 Try.underlying3 hi0 hz0 n (by omega) (by rw [hz1]; decide) (by omega) (by rw [hz2]; omega)
    have hge := grownCap_ge w n 0 2
    have hle := grownCap_le_maxLen w n 0 2 (by unfold maxLen; omega)
    have hfin : ∀ z : Array Value, z.size = grownCap w n 0 2 → RowI (w.drew.alloc (.cells z 2)) w.heap.size (.slice (some ⟨w.heap.size, 0, none⟩) 0 (grownCap w n 0 2)) [] := fun z hz =>
      ⟨by simp, .inr ⟨w.heap.size, _, z, rfl, Nat.le_refl _, heap_alloc_new w.drew _, Nat.zero_le _, hle, by simpa using hz, by simp⟩⟩
    have hz := hfin _ (show (Builtin.zeroCells (Value.int .i64 0).cells n ++ Builtin.zeroCells (Value.int .i64 0).cells (grownCap w n 0 2 - n)).size = _ by
      simp only [Array.size_append, size_zeroCells, Value.cells]; simp; omega)
    have hB : ∀ z : Array Value, Below w.heap.size w (w.drew.alloc (.cells z 2)) := fun z => (Below.drewN (Below.refl _ w) 1).alloc (by simp) _
    have hB' := hB (Builtin.zeroCells (Value.int .i64 0).cells n ++ Builtin.zeroCells (Value.int .i64 0).cells (grownCap w n 0 2 - n))
    generalize Builtin.zeroCells (Value.int .i64 0).cells n ++ Builtin.zeroCells (Value.int .i64 0).cells (grownCap w n 0 2 - n) = zs at *
    generalize grownCap w n 0 2 = G at *
    have hZ := Lib.hid hz
    have hBB := Lib.hid hB'
    unfold maxLen at hle
    clear hfin hz hB hB' hi0 hz0 hz1 hz2
    go_enter Try.func102, Try.ntmps102
    go_wp2_with (at_builtin; refine Lib.wpList_append_run _ rfl _ _ _ _ rfl _ _ rfl rfl _ _ (hrz _) ?_)
    go_ret
    exact ⟨_, rfl, hZ.out, hBB.out⟩
/-- Parts: where each lies, its room, its numbers. -/
abbrev Prt := Addr × Nat × List Int
def prtV (q : Prt) : Value := .slice (some q.1) q.2.2.length q.2.1
def prtc (ps : List Prt) : Array Value := (ps.map prtV).toArray
def catL (ps : List Prt) : List Int := (ps.map (·.2.2)).flatten
theorem catL_step (ps : List Prt) (k : Nat) (h : k < ps.length) : catL (ps.take (k + 1)) = catL (ps.take k) ++ (ps[k]).2.2 := by
  unfold catL
  rw [List.take_succ_eq_append_getElem h, List.map_append, List.flatten_append]
  simp
theorem catL_le (ps : List Prt) (k : Nat) : (catL (ps.take k)).length ≤ (catL ps).length := by
  unfold catL
  conv => rhs; rw [← List.take_append_drop k ps, List.map_append, List.flatten_append, List.length_append]
  exact Nat.le_add_right _ _
set_option maxRecDepth 100000 in
set_option maxHeartbeats 2000000 in
theorem catI_any (g0 c0 : Nat) (ps : List Prt) (w : World) (hO : Own w g0 (prtc ps) 34) (hps : ∀ q ∈ ps, Rd w (some q.1) q.2.2) (hl : (catL ps).length ≤ 1048576) (hk : ps.length ≤ 1048576) :
    Calls Try.prog 60 #[.slice (some ⟨g0, 0, none⟩) ps.length c0] w fun e w' => (∃ p cap, e = .returned (.slice p (catL ps).length cap) ∧ Mn w' w.heap.size p (catL ps)) ∧ Below w.heap.size w w' := by
  obtain ⟨m, hm⟩ : ∃ m, ps.length = m := ⟨_, rfl⟩
  have hN := Lib.hid hm
  have hO' := Lib.hid hO
  have hP' := Lib.hid hps
  have hcell := Lib.hid (fun (k : Nat) (h : k < ps.length) => show (prtc ps)[k]? = some (prtV ps[k]) by simp [prtc, h])
  have hst := Lib.hid (catL_step ps)
  have hle := Lib.hid (catL_le ps)
  have hend := Lib.hid (show catL (ps.take m) = catL ps by rw [List.take_of_length_le (by omega)])
  have hgr := Lib.hid (fun n (h : n ≤ 1048576) w => growI_any n h w)
  rw [hm] at hk ⊢
  clear hO hps hm
  go_enter Try.func60, Try.ntmps60
  go_wp2
  go_loopw [3, 11] (fun v i wr => ∃ k : Nat, k ≤ m ∧ i = .int .i64 k ∧ v = .int .i64 ((catL (ps.take k)).length : Nat) ∧ w = wr) (fun _ i _ => ((m : Int) - intOf i).toNat)
  case atStart => exact ⟨0, by omega, rfl, by simp [catL], rfl⟩
  case round =>
    obtain ⟨k, hk1, rfl, rfl, rfl⟩ := hrel
    by_cases hlt : k < m
    · have hks : k < ps.length := by have := hN.out; omega
      have c1 := hO'.out.cell k
      rw [hcell.out k hks] at c1
      have e1 := hst.out k hks
      have e2 := hle.out (k + 1)
      have e3 := congrArg List.length e1
      rw [List.length_append] at e3
      unfold prtV at c1
      generalize ps[k].1 = a at c1
      generalize ps[k].2.1 = c at c1
      generalize ps[k].2.2.length = ly at c1 e3
      obtain ⟨lk, hlk⟩ : ∃ l, (catL (ps.take k)).length = l := ⟨_, rfl⟩
      have hlk' := Lib.hid hlk
      have e3' := Lib.hid e3
      have v0 : lk + ly ≤ 1048576 := by omega
      have i1 : (k : Int) < (m : Int) := by omega
      have e4 := Lib.hid (show ((lk : Int) + ly) = ((catL (ps.take (k + 1))).length : Nat) by omega)
      rw [hlk] 
      clear hlk e1 e2 e3 hks
      go_wp2
      go_roundw
      case rel => exact ⟨k + 1, by omega, by go_num, by rw [← e4.out], trivial⟩
      case measure => simp [intOf]; omega
    · obtain rfl : k = m := by omega
      rw [hend.out]
      have hgr' := Lib.hid (hgr.out (catL ps).length hl)
      obtain ⟨L, hL⟩ : ∃ L, (catL ps).length = L := ⟨_, rfl⟩
      rw [hL] at hgr' hl ⊢
      have hL' := Lib.hid hL
      clear hL hgr
      go_wp2_with (first
        | (go_at_call 102; ((with_reducible refine (hgr'.out _).mono ?_); rintro e w1 ⟨v, rfl, hv, hB⟩)))
      have hs := hB.size
      go_loopw [6, 27] (fun v i w2 => ∃ j : Nat, j ≤ k ∧ i = .int .i64 j ∧ RowI w2 w.heap.size v (catL (ps.take j)) ∧ Below w.heap.size w w2) (fun _ i _ => ((k : Int) - intOf i).toNat)
      case atStart => exact ⟨0, by omega, rfl, hv, hB⟩
      case round =>
        clear hv hB hs
        obtain ⟨j, hj, rfl, hv, hB⟩ := hrel
        by_cases hlt2 : j < k
        · have hks : j < ps.length := by have := hN.out; omega
          have c1 := (hO'.out.below hB hO'.out.lt).cell j
          rw [hcell.out j hks] at c1
          have hy := (hP'.out ps[j] (List.getElem_mem hks)).below hB
          have hy' := Lib.hid (fun i h => hy.cell _ rfl i h)
          have e1 := hst.out j hks
          have e2 := hle.out (j + 1)
          have e3 := congrArg List.length e1
          rw [List.length_append] at e3
          unfold prtV at c1
          generalize ps[j].1 = a at *
          generalize ps[j].2.1 = c at *
          generalize ps[j].2.2 = ys at *
          obtain ⟨ly, hly⟩ : ∃ l, ys.length = l := ⟨_, rfl⟩
          rw [hly] at c1
          have hly' := Lib.hid hly
          have i1 : (j : Int) < (k : Int) := by omega
          have e4 := Lib.hid e1
          have e5 := Lib.hid (show (catL (ps.take j)).length + ys.length < 2097152 by have := hL'.out; omega)
          have hs := hB.size
          clear e1 e2 e3 hks hy hly
          go_wp2_with (refine wpList_append_row rfl (.tmp 31) (.tmp 32) rfl w.heap.size _ _ ys rfl hv a c (by rw [hly'.out]; rfl) hy'.out e5.out hs ?_; rw [← e4.out]; intro v3 w3 hv3 hG3)
          have hB3 := hB.grown hG3 hs hv.blk
          go_roundw
          case rel => exact ⟨j + 1, by omega, by go_num, hv3, hB3⟩
          case measure => simp [intOf]; omega
        · obtain rfl : j = k := by omega
          rw [hend.out] at hv
          obtain ⟨p, cap, rfl, hM⟩ := hv.mn (Nat.le_refl _)
          have hL2 := hL'.out
          rw [hL2]
          have hM' := Lib.hid hM
          clear hv hM hL2
          go_wp2
          go_ret
          exact ⟨⟨p, cap, by rw [hL'.out]; rfl, hM'.out⟩, hB⟩
end Go.Proofs.Ytbibmncepjmgcaa
