/- Lists of bytes that are joined: slices.Grow from nothing, slices.Concat; append to a list that may be nil. -/
import Derived.Test.YtblbnlpbefmieaaTextM
import Derived.Maps.AppendAt
import Derived.Lib.AppendZerosOnto
import Derived.IntWalk
namespace Go.Proofs.Ytblbnlpbefmieaa
open Go.RowKit
set_option linter.unusedVariables false
/-- Bytes that can be read from an address on. -/
def RdA (w : World) (a : Addr) (xs : List Int) : Prop := ∀ j, j < xs.length → w.cell? (a.add j) = some (.int .u8 (xs.getD j 0))
theorem RdA.below {w w' : World} {a : Addr} {xs : List Int} (h : RdA w a xs) (hb : Below w.heap.size w w') : RdA w' a xs := by
  intro j hj
  have hc := h j hj
  have hlt : (a.add j).block < w.heap.size := by
    refine Decidable.byContradiction fun hn => ?_
    unfold World.cell? at hc
    rw [Array.getElem?_eq_none (by omega)] at hc
    simp at hc
  have : w'.cell? (a.add j) = w.cell? (a.add j) := by unfold World.cell?; rw [hb.block _ hlt]
  rw [this]; exact hc
/-- A list of numbers that the call has made, or nil. -/
def RowB (w : World) (base : Nat) (v : Value) (xs : List Int) : Prop := w.ownsRow base 5 1 v xs.length (xs.map (Value.int .u8))
theorem RowB.nil (w : World) (base : Nat) : RowB w base (.slice none 0 0) [] := World.ownsRow_nil _ _ _ _
theorem RowB.mn {w : World} {base : Nat} {v : Value} {xs : List Int} (h : RowB w base v xs) (hx : xs ≠ []) : ∃ g cap, v = bval g cap xs ∧ Bys w base g cap xs := by
  refine Bys.of_owns h ?_
  intro e
  rcases h.2 with ⟨_, h0⟩ | ⟨g, cap, cur, hv', _⟩
  · exact hx (List.eq_nil_of_length_eq_zero h0)
  · rw [e] at hv'; cases hv'
theorem RowB.blk {w : World} {base : Nat} {v : Value} {xs : List Int} (h : RowB w base v xs) (k : Nat) (e : v.ownBlock = some k) : base ≤ k := by
  rcases h.2 with ⟨hv, _⟩ | ⟨g, cap, cur, hv, hb, _⟩
  · rw [hv] at e; cases e
  · rw [hv] at e; cases e; exact hb
theorem RowB.alloc {w : World} {base : Nat} {v : Value} {xs : List Int} (h : RowB w base v xs) (o : Obj) : RowB (w.alloc o) base v xs :=
  World.ownsRow.kept h (World.grownBy_alloc w o none) (by cases v.ownBlock <;> simp)
theorem RowB.one (w : World) (base : Nat) (x : Int) {n : Nat} (hn : w.heap.size = n) (hb : base ≤ n) : RowB (w.alloc (.cells #[.int .u8 x] 5)) base (.slice (some ⟨n, 0, none⟩) 1 1) [x] := by
  subst hn
  exact ⟨by simp, .inr ⟨w.heap.size, 1, _, rfl, hb, Own.new w #[.int .u8 x] 5, Nat.le_refl _, by unfold maxLen; omega, rfl, by simp⟩⟩
theorem one_cellB (w : World) (x : Int) {n : Nat} (hn : w.heap.size = n) : ∀ j, j < [x].length → (w.alloc (.cells #[.int .u8 x] 5)).cell? ((⟨n, 0, none⟩ : Addr).add j) = some (.int .u8 ([x].getD j 0)) := by
  subst hn
  intro j hj
  obtain rfl : j = 0 := by simpa using hj
  exact (Own.new w #[.int .u8 x] 5).cell 0
theorem wpList_append_rowB {ops : Array Oper} {rest : List Oper} {o : Oper} {a : Act} {w : World} {Q : Exit → Act → World → Prop} (hgd : o.guard = none) (s x : Operand)
    (ho : o.op = .call { callee := .builtin .append, args := #[s, x], argTypes := #[50, 50] })
    (base : Nat) (v : Value) (xs ys : List Int) (hs : a.eval s = v) (hi : RowB w base v xs) (ad : Addr) (c : Nat)
    (hx : a.eval x = .slice (some ad) ys.length c) (hy : ∀ j, j < ys.length → w.cell? (ad.add j) = some (.int .u8 (ys.getD j 0))) (hl : xs.length + ys.length < 1000000) (hbase : base ≤ w.heap.size)
    (h : ∀ v' w', RowB w' base v' (xs ++ ys) → w.grownBy w' v.ownBlock → wpList Try.prog ops Q rest (a.put o.dst v') w') : wpList Try.prog ops Q (o :: rest) a w := by
  obtain ⟨i0, hi0, hz0, hz1, hz2⟩ := info_parts info8
  refine wpList_append_own_at w hgd s x 50 ho base 5 i0 (.int .u8 0) 1 1 Try.underlying50 hi0 hz0 hz1 hz2 rfl (by decide) _ _ _ hs hi ad ys.length c (ys.map (Value.int .u8)) hx (by simp) ?_ (by simp [Value.oneCell']) (by unfold maxLen; omega) (by omega) hbase ?_
  · intro j u hj
    have hlt : j < ys.length := by have := (List.getElem?_eq_some_iff.1 hj).1; simpa using this
    rw [hy j hlt, ← hj]
    simp [hlt]
  · intro v' w' hown hgr hn hat
    rw [← List.length_append, ← List.map_append] at hown
    exact h v' w' hown hgr
set_option maxRecDepth 100000 in
set_option maxHeartbeats 2000000 in
theorem growB_any (n : Nat) (hn : n ≤ 900000) (w : World) :
    Calls Try.prog 166 #[.slice none 0 0, .int .i64 n] w fun e w' => ∃ v, e = .returned v ∧ RowB w' w.heap.size v [] ∧ Below w.heap.size w w' := by
  by_cases h0 : n = 0
  · subst h0
    go_enter Try.func166, Try.ntmps166
    go_wp2
    go_ret
    exact ⟨_, rfl, RowB.nil _ _, Below.refl _ _⟩
  · obtain ⟨i0, hi0, hz0, hz1, hz2⟩ := info_parts info8
    have hrz : ∀ ty, (Builtin.append_ #[50, 3] ty #[.slice none 0 0, .int .i64 (n : Int)]).run Try.prog w = .ok (.slice (some ⟨w.heap.size, 0, none⟩) n (grownCap w n 0 5)) (w.drew.alloc (.cells (Builtin.zeroCells (Value.int .u8 0).cells n ++ Builtin.zeroCells (Value.int .u8 0).cells (grownCap w n 0 5 - n)) 5)) := fun ty =>
      Lib.run_append_nil_zeros w 50 3 ty 5 i0 (.int .u8 0) .i64 .i64 Try.underlying50 Try.underlying3 hi0 hz0 n (by omega) (by rw [hz1]; decide) (by omega) (by rw [hz2]; omega)
    have hge := grownCap_ge w n 0 5
    have hle := grownCap_le_maxLen w n 0 5 (by unfold maxLen; omega)
    have hfin : ∀ z : Array Value, z.size = grownCap w n 0 5 → RowB (w.drew.alloc (.cells z 5)) w.heap.size (.slice (some ⟨w.heap.size, 0, none⟩) 0 (grownCap w n 0 5)) [] := fun z hz =>
      ⟨by simp, .inr ⟨w.heap.size, _, z, rfl, Nat.le_refl _, heap_alloc_new w.drew _, Nat.zero_le _, hle, by simpa using hz, by simp⟩⟩
    have hz := hfin _ (show (Builtin.zeroCells (Value.int .u8 0).cells n ++ Builtin.zeroCells (Value.int .u8 0).cells (grownCap w n 0 5 - n)).size = _ by
      simp only [Array.size_append, size_zeroCells, Value.cells]; simp; omega)
    have hB : ∀ z : Array Value, Below w.heap.size w (w.drew.alloc (.cells z 5)) := fun z => (Below.drewN (Below.refl _ w) 1).alloc (by simp) _
    have hB' := hB (Builtin.zeroCells (Value.int .u8 0).cells n ++ Builtin.zeroCells (Value.int .u8 0).cells (grownCap w n 0 5 - n))
    generalize Builtin.zeroCells (Value.int .u8 0).cells n ++ Builtin.zeroCells (Value.int .u8 0).cells (grownCap w n 0 5 - n) = zs at *
    generalize grownCap w n 0 5 = G at *
    have hZ := Lib.hid hz
    have hBB := Lib.hid hB'
    unfold maxLen at hle
    clear hfin hz hB hB' hi0 hz0 hz1 hz2
    go_enter Try.func166, Try.ntmps166
    go_wp2_with (at_builtin; refine Lib.wpList_append_run _ rfl _ _ _ _ rfl _ _ rfl rfl _ _ (hrz _) ?_)
    go_ret
    exact ⟨_, rfl, hZ.out, hBB.out⟩
/-- Parts: where each lies, its room, its numbers. -/
abbrev PrtB := Addr × Nat × List Int
def prtVB (q : PrtB) : Value := .slice (some q.1) q.2.2.length q.2.1
def prtcB (ps : List PrtB) : Array Value := (ps.map prtVB).toArray
def catLB (ps : List PrtB) : List Int := (ps.map (·.2.2)).flatten
theorem catLB_step (ps : List PrtB) (k : Nat) (h : k < ps.length) : catLB (ps.take (k + 1)) = catLB (ps.take k) ++ (ps[k]).2.2 := by
  unfold catLB
  rw [List.take_succ_eq_append_getElem h, List.map_append, List.flatten_append]
  simp
theorem catLB_le (ps : List PrtB) (k : Nat) : (catLB (ps.take k)).length ≤ (catLB ps).length := by
  unfold catLB
  conv => rhs; rw [← List.take_append_drop k ps, List.map_append, List.flatten_append, List.length_append]
  exact Nat.le_add_right _ _
set_option maxRecDepth 100000 in
set_option maxHeartbeats 2000000 in
theorem catB_any (g0 c0 : Nat) (ps : List PrtB) (w : World) (hO : Own w g0 (prtcB ps) 50) (hps : ∀ q ∈ ps, RdA w q.1 q.2.2) (hl : (catLB ps).length ≤ 900000) (hk : ps.length ≤ 900000) :
    Calls Try.prog 114 #[.slice (some ⟨g0, 0, none⟩) ps.length c0] w fun e w' => (∃ v, e = .returned v ∧ RowB w' w.heap.size v (catLB ps)) ∧ Below w.heap.size w w' := by
  obtain ⟨m, hm⟩ : ∃ m, ps.length = m := ⟨_, rfl⟩
  have hN := Lib.hid hm
  have hO' := Lib.hid hO
  have hP' := Lib.hid hps
  have hcell := Lib.hid (fun (k : Nat) (h : k < ps.length) => show (prtcB ps)[k]? = some (prtVB ps[k]) by simp [prtcB, h])
  have hst := Lib.hid (catLB_step ps)
  have hle := Lib.hid (catLB_le ps)
  have hend := Lib.hid (show catLB (ps.take m) = catLB ps by rw [List.take_of_length_le (by omega)])
  have hgr := Lib.hid (fun n (h : n ≤ 900000) w => growB_any n h w)
  rw [hm] at hk ⊢
  clear hO hps hm
  go_enter Try.func114, Try.ntmps114
  go_wp2
  go_loopw [3, 11] (fun v i wr => ∃ k : Nat, k ≤ m ∧ i = .int .i64 k ∧ v = .int .i64 ((catLB (ps.take k)).length : Nat) ∧ w = wr) (fun _ i _ => ((m : Int) - intOf i).toNat)
  case atStart => exact ⟨0, by omega, rfl, by simp [catLB], rfl⟩
  case round =>
    obtain ⟨k, hk1, rfl, rfl, rfl⟩ := hrel
    by_cases hlt : k < m
    · have hks : k < ps.length := by have := hN.out; omega
      have c1 := hO'.out.cell k
      rw [hcell.out k hks] at c1
      have e1 := hst.out k hks
      have e2 := hle.out (k + 1)
      have e3 := congrArg List.length e1
      rw [List.length_append] at e3
      unfold prtVB at c1
      generalize ps[k].1 = a at c1
      generalize ps[k].2.1 = c at c1
      generalize ps[k].2.2.length = ly at c1 e3
      obtain ⟨lk, hlk⟩ : ∃ l, (catLB (ps.take k)).length = l := ⟨_, rfl⟩
      have hlk' := Lib.hid hlk
      have e3' := Lib.hid e3
      have v0 : lk + ly ≤ 900000 := by omega
      have i1 : (k : Int) < (m : Int) := by omega
      have e4 := Lib.hid (show ((lk : Int) + ly) = ((catLB (ps.take (k + 1))).length : Nat) by omega)
      rw [hlk] 
      clear hlk e1 e2 e3 hks
      go_wp2
      go_roundw
      case rel => exact ⟨k + 1, by omega, by go_num, by rw [← e4.out], trivial⟩
      case measure => simp [intOf]; omega
    · obtain rfl : k = m := by omega
      rw [hend.out]
      have hgr' := Lib.hid (hgr.out (catLB ps).length hl)
      obtain ⟨L, hL⟩ : ∃ L, (catLB ps).length = L := ⟨_, rfl⟩
      rw [hL] at hgr' hl ⊢
      have hL' := Lib.hid hL
      clear hL hgr
      go_wp2_with (first
        | (go_at_call 166; ((with_reducible refine (hgr'.out _).mono ?_); rintro e w1 ⟨v, rfl, hv, hB⟩)))
      have hs := hB.size
      go_loopw [6, 27] (fun v i w2 => ∃ j : Nat, j ≤ k ∧ i = .int .i64 j ∧ RowB w2 w.heap.size v (catLB (ps.take j)) ∧ Below w.heap.size w w2) (fun _ i _ => ((k : Int) - intOf i).toNat)
      case atStart => exact ⟨0, by omega, rfl, hv, hB⟩
      case round =>
        clear hv hB hs
        obtain ⟨j, hj, rfl, hv, hB⟩ := hrel
        by_cases hlt2 : j < k
        · have hks : j < ps.length := by have := hN.out; omega
          have c1 := (hO'.out.below hB hO'.out.lt).cell j
          rw [hcell.out j hks] at c1
          have hy := (hP'.out ps[j] (List.getElem_mem hks)).below hB
          have hy' := Lib.hid (fun i h => hy i h)
          have e1 := hst.out j hks
          have e2 := hle.out (j + 1)
          have e3 := congrArg List.length e1
          rw [List.length_append] at e3
          unfold prtVB at c1
          generalize ps[j].1 = a at *
          generalize ps[j].2.1 = c at *
          generalize ps[j].2.2 = ys at *
          obtain ⟨ly, hly⟩ : ∃ l, ys.length = l := ⟨_, rfl⟩
          rw [hly] at c1
          have hly' := Lib.hid hly
          have i1 : (j : Int) < (k : Int) := by omega
          have e4 := Lib.hid e1
          have e5 := Lib.hid (show (catLB (ps.take j)).length + ys.length < 1000000 by have := hL'.out; omega)
          have hs := hB.size
          clear e1 e2 e3 hks hy hly
          go_wp2_with (refine wpList_append_rowB rfl (.tmp 31) (.tmp 32) rfl w.heap.size _ _ ys rfl hv a c (by rw [hly'.out]; rfl) hy'.out e5.out hs ?_; rw [← e4.out]; intro v3 w3 hv3 hG3)
          have hB3 := hB.grown hG3 hs hv.blk
          go_roundw
          case rel => exact ⟨j + 1, by omega, by go_num, hv3, hB3⟩
          case measure => simp [intOf]; omega
        · obtain rfl : j = k := by omega
          rw [hend.out] at hv
          have hM' := Lib.hid hv
          clear hv
          go_wp2
          go_ret
          exact ⟨⟨_, rfl, hM'.out⟩, hB⟩
end Go.Proofs.Ytblbnlpbefmieaa
