/- Plain mathematics: all texts of n letters, and the half diagrams among them. How many open points a text has: the model's count. The model's list of texts of brackets. The model's list of half diagrams. -/
import Derived.Test.YtopenojociafaaaDoorArcM
import Derived.Test.YtopenojociafaaaDoorGmc
import Derived.Test.YtopenojociafaaaDoorBase
import Derived.Test.YtopenojociafaaaDoorParse
import Derived.Test.YtopenojociafaaaDoorSpecA
import Derived.Test.YtopenojociafaaaDoorGxArcs
import Derived.Test.YtopenojociafaaaDoorGmb
namespace Go.Proofs.YtopenojociafaaaDoor
open Go.RowKit
set_option linter.unusedVariables false
def tx3 : Nat → List (List UInt8)
  | 0 => [[]]
  | n + 1 => (tx3 n).flatMap (fun t => [t ++ [40], t ++ [41], t ++ [124]])
def okH (k : Nat) (t : List UInt8) : Bool := (arcO t).isSome && (t.count 124 == k)
set_option maxRecDepth 1000000 in
set_option maxHeartbeats 0 in
theorem tx3_all (n k : Nat) (h1 : 1 ≤ n) (h8 : n ≤ 8) (hk : k ≤ n) (he : (n - k) % 2 = 0) : (tx3 n).filter (okH k) = allH n k := by
  have h : n = 1 ∨ n = 2 ∨ n = 3 ∨ n = 4 ∨ n = 5 ∨ n = 6 ∨ n = 7 ∨ n = 8 := by omega
  have h2 : k = 0 ∨ k = 1 ∨ k = 2 ∨ k = 3 ∨ k = 4 ∨ k = 5 ∨ k = 6 ∨ k = 7 ∨ k = 8 := by omega
  rcases h with rfl | rfl | rfl | rfl | rfl | rfl | rfl | rfl <;> rcases h2 with rfl | rfl | rfl | rfl | rfl | rfl | rfl | rfl | rfl <;> first | omega | decide +kernel
end Go.Proofs.YtopenojociafaaaDoor
namespace Go.Proofs.YtopenojociafaaaDoor
open Go.RowKit
set_option linter.unusedVariables false
def opnO (l : List UInt8) : Int := ((l.count 124 : Nat) : Int)
theorem countO_take (l : List UInt8) (k : Nat) (h : k < l.length) : (l.take (k + 1)).count 124 = (l.take k).count 124 + (if l[k] = 124 then 1 else 0) := by
  rw [List.take_succ_eq_append_getElem h, List.count_append]
  congr 1
  rw [List.count_singleton]
  simp
set_option maxRecDepth 100000 in
theorem opnS_any (a : ByteArray) (w : World) (ha : a.size ≤ 1048576) :
    Calls Tryd.prog 67 #[.string a] w fun e w' => e = .returned (.int .i64 (opnO a.data.toList)) ∧ w' = w := by
  obtain ⟨R, hR⟩ : ∃ R, opnO a.data.toList = R := ⟨_, rfl⟩
  have HR := Lib.hid hR
  rw [hR]
  clear hR
  go_enter Tryd.func67, Tryd.ntmps67
  go_wp2
  go_loopw [3, 4] (fun c i wr => ∃ (k m : Nat), k ≤ a.size ∧ i = .int .i64 k ∧ c = .int .i64 (m : Int) ∧ m ≤ k ∧ Hid ((a.data.toList.take k).count 124 = m) ∧ wr = w) (fun _ i _ => (a.size - intOf i).toNat)
  case atStart => exact ⟨0, 0, by omega, rfl, rfl, by omega, Lib.hid (by simp), rfl⟩
  case round =>
    obtain ⟨k, m, hk, rfl, rfl, hmk, hM, rfl⟩ := hrel
    by_cases hlt : k < a.size
    · have hltI : (k : Int) < (a.size : Int) := by omega
      have hst := countO_take a.data.toList k (by rw [Array.length_toList]; exact hlt)
      have e0 : a.data.toList[k]'(by rw [Array.length_toList]; exact hlt) = a[k] := rfl
      rw [e0, hM.out] at hst
      by_cases c : a[k] = 124
      · have b124 : ((a[k].toNat : Int) == 124) = true := by rw [c]; rfl
        have H2 := Lib.hid (show (a.data.toList.take (k + 1)).count 124 = m + 1 by rw [hst, if_pos c])
        clear c hst
        go_wp2
        go_roundw
        case rel => exact ⟨k + 1, m + 1, by omega, by go_num, by go_num, by omega, H2, trivial⟩
        case measure => simp [intOf] <;> omega
      · have b124 : ((a[k].toNat : Int) == 124) = false := byte_ne a[k] 124 c
        have H2 := Lib.hid (show (a.data.toList.take (k + 1)).count 124 = m by rw [hst, if_neg c]; rfl)
        clear c hst
        go_wp2
        go_roundw
        case rel => exact ⟨k + 1, m, by omega, by go_num, rfl, by omega, H2, trivial⟩
        case measure => simp [intOf] <;> omega
    · have e : (m : Int) = R := by
        have := hM.out
        rw [List.take_of_length_le (by rw [Array.length_toList]; have : a.data.size = a.size := rfl; omega)] at this
        rw [← HR.out, ← this]; rfl
      subst e
      go_wp2
      go_ret
      exact ⟨rfl, rfl⟩
end Go.Proofs.YtopenojociafaaaDoor
namespace Go.Proofs.YtopenojociafaaaDoor
open Go.RowKit
set_option linter.unusedVariables false
set_option linter.unusedSimpArgs false
theorem bsv_size (t : List UInt8) : (bsv t).size = t.length := by simp [bsv, ByteArray.size]
def TxPost (base : Nat) (xs : List ByteArray) (L : List (List UInt8)) (w : World) (e : Ending) (w' : World) : Prop :=
  ∃ g cap, e = .returned (stval g cap (xs ++ bsl L)) ∧ Strs w' base g cap (xs ++ bsl L) ∧ Below base w w'
end Go.Proofs.YtopenojociafaaaDoor
namespace Go.Proofs.YtopenojociafaaaDoor
open Go.RowKit
set_option linter.unusedVariables false
set_option linter.unusedSimpArgs false
theorem tx3_len (n : Nat) : (tx3 n).length = 3 ^ n := by
  induction n with
  | zero => rfl
  | succ n ih =>
    have h : ∀ T : List (List UInt8), (T.flatMap (fun t => [t ++ [40], t ++ [41], t ++ [124]])).length = T.length * 3 := fun T => by
      induction T with
      | nil => rfl
      | cons a T ihT => rw [List.flatMap_cons, List.length_append, ihT]; simp; omega
    rw [tx3, h, ih, Nat.pow_succ]
theorem tx3_txt (n : Nat) : ∀ q, q < (tx3 n).length → ((tx3 n).getD q []).length = n := by
  have h : ∀ t ∈ tx3 n, t.length = n := by
    induction n with
    | zero => intro t ht; simp [tx3] at ht; subst ht; rfl
    | succ n ih =>
      intro t ht
      simp only [tx3, List.mem_flatMap] at ht
      obtain ⟨u, hu, ht⟩ := ht
      have := ih u hu
      simp at ht
      rcases ht with rfl | rfl | rfl <;> simp [this]
  intro q hq
  rw [List.getD_eq_getElem?_getD, List.getElem?_eq_getElem hq]
  exact h _ (List.getElem_mem hq)
def nx3 (T : List (List UInt8)) : Nat → List (List UInt8)
  | 0 => []
  | q + 1 => nx3 T q ++ [T.getD q [] ++ [40], T.getD q [] ++ [41], T.getD q [] ++ [124]]
theorem nx3_len (T : List (List UInt8)) (q : Nat) : (nx3 T q).length = 3 * q := by
  induction q with
  | zero => rfl
  | succ q ih => rw [nx3, List.length_append, ih]; simp; omega
theorem nx3_take (T : List (List UInt8)) (q : Nat) (h : q ≤ T.length) : nx3 T q = (T.take q).flatMap (fun t => [t ++ [40], t ++ [41], t ++ [124]]) := by
  induction q with
  | zero => simp [nx3]
  | succ q ih =>
    rw [nx3, ih (by omega), List.take_succ_eq_append_getElem (by omega), List.flatMap_append, List.getD_eq_getElem?_getD, List.getElem?_eq_getElem (by omega)]
    simp
theorem nx3_end (k : Nat) : nx3 (tx3 k) (tx3 k).length = tx3 (k + 1) := by
  rw [nx3_take _ _ (Nat.le_refl _), List.take_of_length_le (Nat.le_refl _)]; rfl
def fl3 (p : List UInt8 → Bool) (T : List (List UInt8)) : Nat → List (List UInt8)
  | 0 => []
  | q + 1 => fl3 p T q ++ (if p (T.getD q []) = true then [T.getD q []] else [])
theorem fl3_take (p : List UInt8 → Bool) (T : List (List UInt8)) (q : Nat) (h : q ≤ T.length) : fl3 p T q = (T.take q).filter p := by
  induction q with
  | zero => simp [fl3]
  | succ q ih =>
    rw [fl3, ih (by omega), List.take_succ_eq_append_getElem (by omega), List.filter_append, List.getD_eq_getElem?_getD, List.getElem?_eq_getElem (by omega)]
    simp only [Option.getD_some, List.filter_cons, List.filter_nil]
theorem fl3_end (p : List UInt8 → Bool) (T : List (List UInt8)) : fl3 p T T.length = T.filter p := by
  rw [fl3_take _ _ _ (Nat.le_refl _), List.take_of_length_le (Nat.le_refl _)]
theorem fl3_len (p : List UInt8 → Bool) (T : List (List UInt8)) (q : Nat) : (fl3 p T q).length ≤ q := by
  induction q with
  | zero => exact Nat.le_refl _
  | succ q ih => rw [fl3, List.length_append]; split <;> simp <;> omega
theorem bsl_getB (L : List (List UInt8)) (j : Nat) (h : j < L.length) : (bsl L).getD j ByteArray.empty = bsv (L.getD j []) := by
  rw [List.getD_eq_getElem?_getD, List.getD_eq_getElem?_getD]; simp [bsl, h]
theorem wpList_append_strs3 {ops : Array Oper} {rest : List Oper} {o : Oper} {a : Act} {w : World} {Q : Exit → Act → World → Prop} (hgd : o.guard = none) (s x : Operand)
    (ho : o.op = .call { callee := .builtin .append, args := #[s, x], argTypes := #[39, 39] })
    (base g cap : Nat) (xs : List ByteArray) (y1 y2 y3 : ByteArray) (hs : a.eval s = stval g cap xs) (hi : Strs w base g cap xs) (b c : Nat)
    (hx : a.eval x = .slice (some ⟨b, 0, none⟩) 3 c) (hy : Own w b #[.string y1, .string y2, .string y3] 9) (hl : xs.length < 2097152) (hbase : base ≤ w.heap.size)
    (h : ∀ g' cap' w', Strs w' base g' cap' (xs ++ [y1, y2, y3]) → w.grownBy w' (some g) → wpList Tryd.prog ops Q rest (a.put o.dst (stval g' cap' (xs ++ [y1, y2, y3]))) w') : wpList Tryd.prog ops Q (o :: rest) a w := by
  obtain ⟨i0, hi0, hz0, hz1, hz2⟩ := info_parts infoStr
  refine wpList_append_own w hgd s x 39 ho base 9 i0 (.string ByteArray.empty) 1 16 Tryd.underlying39 hi0 hz0 hz1 hz2 rfl (by decide) _ _ _ hs hi.owns ⟨b, 0, none⟩ 3 c [.string y1, .string y2, .string y3] hx rfl ?_ (by simp [Value.oneCell']) (by unfold maxLen; omega) (by omega) hbase ?_
  · intro j u hj
    rw [show (⟨b, 0, none⟩ : Addr).add j = ⟨b, j, none⟩ by rw [Addr.add_mid, Nat.zero_add], hy.cell]
    simpa using hj
  · intro v' w' hown hgr hn
    have e1 : (xs ++ [y1, y2, y3]).length = xs.length + 3 := by simp
    have e2 : (xs ++ [y1, y2, y3]).map (Value.string) = xs.map (Value.string) ++ [.string y1, .string y2, .string y3] := by simp
    rw [← e1, ← e2] at hown
    obtain ⟨g', cap', rfl, hI⟩ := Strs.of_owns hown (fun e => by have := (hn.1 e).2; cases this)
    exact h g' cap' w' hI hgr
set_option maxRecDepth 100000 in
theorem l04IsO (a : ByteArray) (w : World) (ha : a.size ≤ 1048576) :
    Calls Tryd.prog 66 #[.string a] w fun e w' => e = .returned (.bool (arcO a.data.toList).isSome) ∧ Below w.heap.size w w' := by
  have hc := Lib.hid (arcs_any a w ha)
  go_enter Tryd.func66, Tryd.ntmps66
  go_wp2_with (first
    | (go_at_call 68; ((with_reducible refine (hc.out).mono ?_); rintro e w1 ⟨o, b, hl, rfl, hy, hn, hB1⟩))
    | (refine wpList_store_own rfl 81 _ _ rfl _ _ rfl rfl 81 _ (Own.new w1 _ _) (row8i (i8s _ (hl))) (i88 z8l hl) (one8i _) ?_; intro w3 hO3 hN3))
  go_ret
  refine ⟨?_, (hB1.alloc hB1.size _).trans (hN3.below.mono hB1.size)⟩
  cases b with
  | true => rw [hy rfl]; rfl
  | false => rw [hn rfl]; rfl
theorem isO_any (t : List UInt8) (ht : t.length ≤ 1000) (w : World) : Calls Tryd.prog 66 #[.string (bsv t)] w fun e w' => e = .returned (.bool (arcO t).isSome) ∧ Below w.heap.size w w' := by
  have := l04IsO (bsv t) w (by rw [bsv_size]; omega)
  rwa [show (bsv t).data.toList = t from by simp [bsv]] at this
set_option maxRecDepth 100000 in
set_option maxHeartbeats 4000000 in
theorem hsS_ok (n k : Nat) (h1 : 1 ≤ n) (h8 : n ≤ 8) (w : World) :
    Calls Tryd.prog 43 #[.int .i64 n, .int .i64 k] w (TxPost w.heap.size [] ((tx3 n).filter (okH k)) w) := by
  have hpw : 3 ^ n ≤ 3 ^ 8 := Nat.pow_le_pow_right (by omega) h8
  have hpw2 : (3 : Nat) ^ 8 = 6561 := rfl
  have hE := Lib.hid (fl3_end (okH k) (tx3 n))
  have hnl := Lib.hid (tx3_len n)
  have hml := Lib.hid (fun j (hj : j ≤ n) => show (tx3 j).length ≤ 6561 from by rw [tx3_len]; have := Nat.pow_le_pow_right (show 1 ≤ 3 by omega) hj; omega)
  have htl := Lib.hid (fun j (hj : j ≤ n) => tx3_txt j)
  have hI1 : Strs (w.alloc (.cells #[.string ⟨#[]⟩] 9)) w.heap.size w.heap.size 1 (bsl (tx3 0)) := ⟨Nat.le_refl _, Nat.le_refl _, by decide, _, Own.new _ _ _, rfl, rfl⟩
  go_enter Tryd.func43, Tryd.ntmps43
  go_wp2
  go_loopw [5, 6] (fun v i wr => ∃ (j g cap : Nat), j ≤ n ∧ i = .int .i64 j ∧ v = .slice (some ⟨g, 0, none⟩) (tx3 j).length cap ∧ Strs wr w.heap.size g cap (bsl (tx3 j)) ∧ Below w.heap.size w wr) (fun _ i _ => ((n : Int) - intOf i).toNat)
  case atStart => exact ⟨0, w.heap.size, 1, by omega, rfl, rfl, hI1, (Below.refl _ _).alloc (Nat.le_refl _) _⟩
  case round =>
    clear hI1
    obtain ⟨j, g, cap, hj, rfl, rfl, hI, hB⟩ := hrel
    by_cases hlt : j < n
    · have i1 : (j : Int) < (n : Int) := by omega
      obtain ⟨w2, rfl⟩ : ∃ x, x = wr := ⟨_, rfl⟩
      have HT := Lib.hid hI
      have HTl := Lib.hid hI.lt
      have HB := Lib.hid hB
      have hs2 := hB.size
      have hen := Lib.hid (nx3_end j)
      have hlm := hml.out j hj
      have htx := Lib.hid (htl.out j hj)
      obtain ⟨T, hT⟩ : ∃ T, tx3 j = T := ⟨_, rfl⟩
      rw [hT] at HT hen hlm htx ⊢
      obtain ⟨l, hl⟩ : ∃ l, T.length = l := ⟨_, rfl⟩
      rw [hl] at hen hlm ⊢
      clear hI hB hT
      have HL := Lib.hid hl
      clear hl
      go_wp2
      go_loopw [7, 8] (fun v i wr => ∃ (q g2 cap2 : Nat), q ≤ l ∧ i = .int .i64 q ∧ v = .slice (some ⟨g2, 0, none⟩) (3 * q) cap2 ∧ Strs wr w2.heap.size g2 cap2 (bsl (nx3 T q)) ∧ Below w2.heap.size w2 wr) (fun _ i _ => ((l : Int) - intOf i).toNat)
      case atStart => exact ⟨0, w2.heap.size, 0, by omega, rfl, rfl, Strs.new w2 _ _ 0 (Nat.le_refl _) rfl (by decide) _ rfl, (Below.refl _ _).alloc (Nat.le_refl _) _⟩
      case round =>
        obtain ⟨q, g2, cap2, hq, rfl, rfl, hI, hB⟩ := hrel
        by_cases hlt2 : q < l
        · have i2 : (q : Int) < (l : Int) := by omega
          have hql := Lib.hid (show q < (bsl T).length by rw [bsl_len, HL.out]; exact hlt2)
          have hgt0 := bsl_getB T q (by rw [HL.out]; exact hlt2)
          have hst := Lib.hid (show bsl (nx3 T (q + 1)) = bsl (nx3 T q) ++ [bsv (T.getD q []) ++ ⟨#[40]⟩, bsv (T.getD q []) ++ ⟨#[41]⟩, bsv (T.getD q []) ++ ⟨#[124]⟩] by rw [nx3, bsl_app]; simp [bsl, bsv_app])
          have hsz := htx.out q (by rw [HL.out]; exact hlt2)
          have hsb := bsv_size (T.getD q [])
          obtain ⟨s, hs⟩ : ∃ s, bsv (T.getD q []) = s := ⟨_, rfl⟩
          rw [hs] at hgt0 hst hsb
          have hgt := Lib.hid hgt0
          have z1 : ¬ 9223372036854775807 < s.size + 1 := by omega
          have hln := Lib.hid (show (bsl (nx3 T q)).length = 3 * q by rw [bsl_len, nx3_len])
          have hln2 := Lib.hid (show (bsl (nx3 T (q + 1))).length = 3 * (q + 1) by rw [bsl_len, nx3_len])
          clear hgt0 hs hsz hsb
          have hg0 := hI.1
          go_wp2
          refine wp_region_on (fun w' => Strs w' w2.heap.size g2 cap2 (bsl (nx3 T q)) ∧ Below w2.heap.size w2 w') [0, 1, 2, 3, 4, 5, 6, 7, 8, 9, 10, 11, 12, 13, 14, 15] [16] 17 (by kernel_rfl) (by kernel_rfl) ⟨hI.drewN 1, Below.drewN hB 1⟩ ?_
          simp only [List.map_cons, List.map_nil, opN_zero, opN_succ, List.drop_succ_cons, List.drop_zero]
          clear hI hB
          (apply wpOn_step; · (intro wd hS K hK; have d1 := (HT.out.below hS.2 HTl.out).cell q hql.out; rw [hgt.out] at d1; clear hS; go_simp; exact hK))
          (apply wpOn_step; · (intro wd hS K hK; have d1 := (HT.out.below hS.2 HTl.out).cell q hql.out; rw [hgt.out] at d1; clear hS; go_simp; exact hK))
          (apply wpOn_step; · (intro wd hS K hK; have d1 := (HT.out.below hS.2 HTl.out).cell q hql.out; rw [hgt.out] at d1; clear hS; go_simp; exact hK))
          (apply wpOn_step; · (intro wd hS K hK; have d1 := (HT.out.below hS.2 HTl.out).cell q hql.out; rw [hgt.out] at d1; clear hS; go_simp; exact hK))
          (apply wpOn_step; · (intro wd hS K hK; have d1 := (HT.out.below hS.2 HTl.out).cell q hql.out; rw [hgt.out] at d1; clear hS; go_simp; exact hK))
          (apply wpOn_step; · (intro wd hS K hK; have d1 := (HT.out.below hS.2 HTl.out).cell q hql.out; rw [hgt.out] at d1; clear hS; go_simp; exact hK))
          (apply wpOn_step; · (intro wd hS K hK; have d1 := (HT.out.below hS.2 HTl.out).cell q hql.out; rw [hgt.out] at d1; clear hS; go_simp; exact hK))
          (apply wpOn_step; · (intro wd hS K hK; have d1 := (HT.out.below hS.2 HTl.out).cell q hql.out; rw [hgt.out] at d1; clear hS; go_simp; exact hK))
          (apply wpOn_step; · (intro wd hS K hK; have d1 := (HT.out.below hS.2 HTl.out).cell q hql.out; rw [hgt.out] at d1; clear hS; go_simp; exact hK))
          (apply wpOn_step; · (intro wd hS K hK; have d1 := (HT.out.below hS.2 HTl.out).cell q hql.out; rw [hgt.out] at d1; clear hS; go_simp; exact hK))
          (apply wpOn_step; · (intro wd hS K hK; have d1 := (HT.out.below hS.2 HTl.out).cell q hql.out; rw [hgt.out] at d1; clear hS; go_simp; exact hK))
          (apply wpOn_step; · (intro wd hS K hK; have d1 := (HT.out.below hS.2 HTl.out).cell q hql.out; rw [hgt.out] at d1; clear hS; go_simp; exact hK))
          (apply wpOn_step; · (intro wd hS K hK; have d1 := (HT.out.below hS.2 HTl.out).cell q hql.out; rw [hgt.out] at d1; clear hS; go_simp; exact hK))
          (apply wpOn_step; · (intro wd hS K hK; have d1 := (HT.out.below hS.2 HTl.out).cell q hql.out; rw [hgt.out] at d1; clear hS; go_simp; exact hK))
          (apply wpOn_step; · (intro wd hS K hK; have d1 := (HT.out.below hS.2 HTl.out).cell q hql.out; rw [hgt.out] at d1; clear hS; go_simp; exact hK))
          (apply wpOn_step; · (intro wd hS K hK; have d1 := (HT.out.below hS.2 HTl.out).cell q hql.out; rw [hgt.out] at d1; clear hS; go_simp; exact hK))
          refine wpOn_nil ?_
          rintro w8 ⟨hI8, hB8⟩
          have hs8 := hB8.size
          refine wpMid_step (fun K hK => ?_)
          go_wp2
          refine hK _ _ ⟨hI8.alloc _, hB8.alloc hs8 _⟩ ?_
          clear hK K
          refine wpMid_nil ?_
          go_wp2_with (first
            | (refine wpList_append_strs3 rfl (.tmp 24) (.tmp 40) rfl w2.heap.size g2 cap2 (bsl (nx3 T q)) (s ++ ⟨#[40]⟩) (s ++ ⟨#[41]⟩) (s ++ ⟨#[124]⟩) (by rw [stval, hln.out]; rfl) (hI8.alloc _) w8.heap.size 3 rfl (Own.new _ _ _) (by rw [hln.out]; omega) (by simp; omega) ?_; intro g3 cap3 w3 hI3 hG3; rw [← hst.out] at hI3 ⊢; rw [stval, hln2.out]))
          go_roundw
          case rel => exact ⟨q + 1, g3, cap3, by omega, by go_num, rfl, hI3, (hB8.alloc hs8 _).grown hG3 (by simp; omega) (fun k e => by cases e; exact hg0)⟩
          case measure => simp [intOf]; omega
        · have e : q = l := by omega
          subst e
          have hl3 : 3 * q = (tx3 (j + 1)).length := by rw [← hen.out, nx3_len]
          rw [hen.out] at hI
          rw [hl3]
          go_wp2
          go_roundw
          case rel => exact ⟨j + 1, g2, cap2, by omega, by go_num, rfl, ⟨Nat.le_trans hs2 hI.1, hI.2⟩, HB.out.trans (hB.mono hs2)⟩
          case measure => simp [intOf]; omega
    · have e : j = n := by omega
      subst e
      obtain ⟨w2, rfl⟩ : ∃ x, x = wr := ⟨_, rfl⟩
      have HT := Lib.hid hI
      have HTl := Lib.hid hI.lt
      have HB := Lib.hid hB
      have hs2 := hB.size
      have hlm := hml.out j hj
      have htx := Lib.hid (htl.out j hj)
      obtain ⟨T, hT⟩ : ∃ T, tx3 j = T := ⟨_, rfl⟩
      rw [hT] at HT hlm htx hE ⊢
      obtain ⟨l, hl⟩ : ∃ l, T.length = l := ⟨_, rfl⟩
      rw [hl] at hlm hE ⊢
      have HL := Lib.hid hl
      have HTT := Lib.hid hT
      clear hI hB hT hl
      go_wp2
      go_loopw [9, 10] (fun v i wr => ∃ (q g2 cap2 : Nat), q ≤ l ∧ i = .int .i64 q ∧ v = .slice (some ⟨g2, 0, none⟩) (fl3 (okH k) T q).length cap2 ∧ Strs wr w2.heap.size g2 cap2 (bsl (fl3 (okH k) T q)) ∧ Below w2.heap.size w2 wr) (fun _ i _ => ((l : Int) - intOf i).toNat)
      case atStart => exact ⟨0, w2.heap.size, 0, by omega, rfl, rfl, Strs.new w2 _ _ 0 (Nat.le_refl _) rfl (by decide) _ rfl, (Below.refl _ _).alloc (Nat.le_refl _) _⟩
      case round =>
        obtain ⟨q, g2, cap2, hq, rfl, rfl, hI, hB⟩ := hrel
        by_cases hlt2 : q < l
        · have i2 : (q : Int) < (l : Int) := by omega
          have hql : q < (bsl T).length := by rw [bsl_len, HL.out]; exact hlt2
          have c1 := (HT.out.below hB HTl.out).cell q hql
          have hbg0 := bsl_getB T q (by rw [HL.out]; exact hlt2)
          rw [hbg0] at c1
          have hsz := htx.out q (by rw [HL.out]; exact hlt2)
          have hIs := fun w => isO_any (T.getD q []) (by omega) w
          have hOp := fun w => opnS_any (bsv (T.getD q [])) w (by rw [bsv_size]; omega)
          rw [show (bsv (T.getD q [])).data.toList = T.getD q [] from by simp [bsv]] at hOp
          have hp : okH k (T.getD q []) = ((arcO (T.getD q [])).isSome && (opnO (T.getD q []) == (k : Int))) := by
            unfold okH opnO
            congr 1
            rw [Bool.eq_iff_iff]; simp only [beq_iff_eq]; constructor <;> intro h <;> omega
          have hfs : bsl (fl3 (okH k) T (q + 1)) = bsl (fl3 (okH k) T q) ++ (if okH k (T.getD q []) = true then [bsv (T.getD q [])] else []) := by
            rw [fl3, bsl_app]; split <;> rfl
          have hfl := fl3_len (okH k) T q
          have hfl2 := Lib.hid (bsl_len (fl3 (okH k) T (q + 1)))
          have hfl1 := Lib.hid (bsl_len (fl3 (okH k) T q))
          rw [hp] at hfs
          obtain ⟨s, hs⟩ : ∃ s, bsv (T.getD q []) = s := ⟨_, rfl⟩
          rw [hs] at c1 hfs hbg0
          simp only [hs] at hIs hOp
          generalize (arcO (T.getD q [])).isSome = b at *
          generalize opnO (T.getD q []) = y at *
          have hbg := Lib.hid (show (bsl T).getD q ByteArray.empty = s from hbg0)
          have hIs := Lib.hid hIs
          have hOp := Lib.hid hOp
          have hg0 := hI.1
          have hsw := hB.size
          clear hp hs hsz hql hbg0
          cases b with
          | false =>
            have hfs := Lib.hid (show bsl (fl3 (okH k) T (q + 1)) = bsl (fl3 (okH k) T q) by rw [hfs]; simp)
            have hln : (fl3 (okH k) T q).length = (fl3 (okH k) T (q + 1)).length := by rw [← hfl2.out, hfs.out, hfl1.out]
            rw [← hfs.out] at hI
            rw [hln]
            have HI := Lib.hid hI
            have HB2 := Lib.hid hB
            clear hln hI hB
            go_wp2_with (first
              | (go_at_call 66; ((with_reducible refine (hIs.out _).mono ?_); rintro e w3 ⟨rfl, hB3⟩)))
            go_roundw
            case rel => exact ⟨q + 1, g2, cap2, by omega, by go_num, rfl, HI.out.below hB3 HI.out.lt, HB2.out.trans (hB3.mono hsw)⟩
            case measure => simp [intOf]; omega
          | true =>
            by_cases ey : y = (k : Int)
            · have hfsN := Lib.hid (show bsl (fl3 (okH k) T (q + 1)) = bsl (fl3 (okH k) T q) ++ [s] by rw [hfs, ey]; simp)
              clear hfs
              subst ey
              have hln0 := Lib.hid (show (fl3 (okH k) T q).length ≤ 6561 by omega)
              have HI := Lib.hid hI
              have HB2 := Lib.hid hB
              have h6 : q ≤ 6561 := by omega
              clear hI hB
              go_wp2_with (first
                | (refine wpList_append_strs rfl (.tmp 64) (.tmp 69) rfl w2.heap.size g2 cap2 (bsl (fl3 (okH k) T q)) s (by rw [stval, hfl1.out]; rfl) (hI3.alloc _) ⟨w4.heap.size, 0, none⟩ 1 rfl ((Own.new _ _ _).cell 0) (by rw [hfl1.out]; have := hln0.out; omega) (by simp; have := hB3.size; omega) ?_; intro g3 cap3 w5 hI5 hG5; rw [← hfsN.out] at hI5 ⊢; rw [stval, hfl2.out])
                | (go_at_call 66; ((with_reducible refine (hIs.out _).mono ?_); rintro e w3 ⟨rfl, hB3⟩; have c3 := (HT.out.below (HB2.out.trans (hB3.mono hsw)) HTl.out).cell q (by rw [bsl_len, HL.out]; exact hlt2); rw [hbg.out] at c3; have hI3 := HI.out.below hB3 HI.out.lt))
                | (go_at_call 67; ((with_reducible refine (hOp.out _).mono ?_); rintro e w4 ⟨rfl, rfl⟩)))
              go_roundw
              case rel => exact ⟨q + 1, g3, cap3, by omega, by go_num, rfl, hI5, ((HB2.out.trans (hB3.mono hsw)).alloc (by have := hB3.size; omega) _).grown hG5 (by simp; have := hB3.size; omega) (fun r e => by cases e; exact hg0)⟩
              case measure => simp [intOf]; omega
            · have eb : (y == (k : Int)) = false := by simpa using ey
              have hfs := Lib.hid (show bsl (fl3 (okH k) T (q + 1)) = bsl (fl3 (okH k) T q) by rw [hfs, eb]; simp)
              have hln : (fl3 (okH k) T q).length = (fl3 (okH k) T (q + 1)).length := by rw [← hfl2.out, hfs.out, hfl1.out]
              rw [← hfs.out] at hI
              rw [hln]
              have HI := Lib.hid hI
              have HB2 := Lib.hid hB
              clear hln hI hB ey
              go_wp2_with (first
                | (go_at_call 66; ((with_reducible refine (hIs.out _).mono ?_); rintro e w3 ⟨rfl, hB3⟩; have c3 := (HT.out.below (HB2.out.trans (hB3.mono hsw)) HTl.out).cell q (by rw [bsl_len, HL.out]; exact hlt2); rw [hbg.out] at c3; have hI3 := HI.out.below hB3 HI.out.lt))
                | (go_at_call 67; ((with_reducible refine (hOp.out _).mono ?_); rintro e w4 ⟨rfl, rfl⟩)))
              go_roundw
              case rel => exact ⟨q + 1, g2, cap2, by omega, by go_num, rfl, hI3, HB2.out.trans (hB3.mono hsw)⟩
              case measure => simp [intOf]; omega
        · have e : q = l := by omega
          subst e
          rw [hE.out] at hI ⊢
          go_wp2
          go_ret
          rw [HTT.out]
          exact ⟨g2, cap2, by rw [List.nil_append, stval, bsl_len]; rfl, ⟨Nat.le_trans hs2 hI.1, by rw [List.nil_append]; exact hI.2⟩, HB.out.trans (hB.mono hs2)⟩
end Go.Proofs.YtopenojociafaaaDoor
