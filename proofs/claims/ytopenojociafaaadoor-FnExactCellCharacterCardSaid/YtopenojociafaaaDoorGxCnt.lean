/- How many open points a text has, and the program's diagram with two halves. -/
import Derived.Test.YtopenojociafaaaDoorToh
import Derived.Test.YtopenojociafaaaDoorGxIsH
namespace Go.Proofs.YtopenojociafaaaDoor
open Go.RowKit
def cnt (l : List UInt8) : Int := ((l.count 124 : Nat) : Int)
set_option maxRecDepth 100000 in
theorem cntI_any (a : ByteArray) (w : World) :
    Calls Tryd.prog 53 #[.string a] w fun e w' => e = .returned (.int .i64 (cnt a.data.toList)) ∧ w' = w := by
  have hc := Lib.hid (Tryd.strings_Count_one a 124 w)
  go_enter Tryd.func53, Tryd.ntmps53
  go_wp2_with (first
    | (go_at_call 74; ((with_reducible refine hc.out.mono ?_); rintro e w1 ⟨rfl, rfl⟩)))
  go_ret
  exact ⟨rfl, rfl⟩
theorem count_take (l : List UInt8) (k : Nat) (h : k < l.length) : (l.take (k + 1)).count 124 = (l.take k).count 124 + (if l[k] = 124 then 1 else 0) := by
  rw [List.take_succ_eq_append_getElem h, List.count_append]
  congr 1
  rw [List.count_singleton]
  simp
set_option maxRecDepth 100000 in
theorem cntS_any (a : ByteArray) (w : World) (ha : a.size ≤ 1048576) :
    Calls Tryd.prog 67 #[.string a] w fun e w' => e = .returned (.int .i64 (cnt a.data.toList)) ∧ w' = w := by
  obtain ⟨R, hR⟩ : ∃ R, cnt a.data.toList = R := ⟨_, rfl⟩
  have HR := Lib.hid hR
  rw [hR]
  clear hR
  go_enter Tryd.func67, Tryd.ntmps67
  go_wp2
  go_loopw [3, 4] (fun c i wr => ∃ (k m : Nat), k ≤ a.size ∧ i = .int .i64 k ∧ c = .int .i64 (m : Int) ∧ m ≤ k ∧ Hid ((a.data.toList.take k).count 124 = m) ∧ wr = w) (fun _ i _ => (a.size - intOf i).toNat)
  case atStart => exact ⟨0, 0, by omega, rfl, rfl, by omega, Lib.hid (by simp), rfl⟩
  case round =>
    obtain ⟨k, m, hk, rfl, rfl, hmk, hM, rfl⟩ := hrel
    by_cases hlt : k < a.size
    · have hltI : (k : Int) < (a.size : Int) := by omega
      have hst := count_take a.data.toList k (by rw [Array.length_toList]; exact hlt)
      have e0 : a.data.toList[k]'(by rw [Array.length_toList]; exact hlt) = a[k] := rfl
      rw [e0, hM.out] at hst
      by_cases c : a[k] = 124
      · have b124 : ((a[k].toNat : Int) == 124) = true := by rw [c]; rfl
        have H2 := Lib.hid (show (a.data.toList.take (k + 1)).count 124 = m + 1 by rw [hst, if_pos c])
        clear c hst
        go_wp2
        go_roundw
        case rel => exact ⟨k + 1, m + 1, by omega, by go_num, by go_num, by omega, H2, trivial⟩
        case measure => simp [intOf] <;> omega
      · have b124 : ((a[k].toNat : Int) == 124) = false := byte_ne a[k] 124 c
        have H2 := Lib.hid (show (a.data.toList.take (k + 1)).count 124 = m by rw [hst, if_neg c]; rfl)
        clear c hst
        go_wp2
        go_roundw
        case rel => exact ⟨k + 1, m, by omega, by go_num, rfl, by omega, H2, trivial⟩
        case measure => simp [intOf] <;> omega
    · have e : (m : Int) = R := by
        have := hM.out
        rw [List.take_of_length_le (by rw [Array.length_toList]; have : a.data.size = a.size := rfl; omega)] at this
        rw [← HR.out, ← this]; rfl
      subst e
      go_wp2
      go_ret
      exact ⟨rfl, rfl⟩
set_option maxRecDepth 100000 in
theorem hdI_any (a b : ByteArray) (m : Int) (w : World) (hm : Ml w m) (ha : a.size ≤ 1048576) (hb : b.size ≤ 1048576) (n : Int) (ms : List Int) (hp : parse (tohL a.data.toList b.data.toList) = some (n, ms)) :
    Calls Tryd.prog 52 #[.string a, .string b] w fun e w' => e = .returned (.agg (dcells n ms)) ∧ Below w.heap.size w w' := by
  have ht := Lib.hid (fun w1 (h : Below w.heap.size w w1) => tohI_any a b m w1 (hm.below h hm.lt) ha hb)
  obtain ⟨T, hT⟩ : ∃ T : ByteArray, (⟨(tohL a.data.toList b.data.toList).toArray⟩ : ByteArray) = T := ⟨_, rfl⟩
  have hTs : T.size ≤ maxLen := by
    rw [← hT]
    show (tohL a.data.toList b.data.toList).toArray.size ≤ maxLen
    rw [List.size_toArray, toh_len, Array.length_toList, Array.length_toList]
    have : a.data.size = a.size := rfl
    have : b.data.size = b.size := rfl
    unfold maxLen; omega
  have hTp : parse T.data.toList = some (n, ms) := by rw [← hT]; exact hp
  rw [hT] at ht
  have hl := Lib.hid (parse_len _ _ _ hp)
  have hc := Lib.hid (fun w => (dot_any T w hTs).mono fun e w' (hd : DotPost _ w e w') => show e = .returned (.tuple #[.agg (dcells n ms), .bool true]) ∧ Below w.heap.size w w' from ⟨by rw [hd.1, hTp]; rfl, hd.2⟩)
  clear hp hTp hT hm
  go_enter Tryd.func52, Tryd.ntmps52
  go_wp2_with (first
    | (go_at_call 73; ((with_reducible refine (ht.out _ ((Below.refl _ w).alloc (Nat.le_refl _) _)).mono ?_); rintro e w1 ⟨rfl, hB1⟩))
    | (go_at_call 57; ((with_reducible refine (hc.out _).mono ?_); rintro e w2 ⟨rfl, hB2⟩))
    | (refine wpList_store_own rfl 32 _ _ rfl _ _ rfl rfl 32 _ (Own.new w2 _ _) (row26 (d17 _ _ (hl.out))) (z_eq (d17 _ _ hl.out)) (dcells_one _ _) ?_; intro w3 hO3 hN3)
    | (refine wpList_load_row rfl 32 _ rfl _ rfl 32 _ (0, 0) _ (hO3) Tryd.underlying32 rfl (row26 (d17 _ _ (hl.out))) ?_)
    | (refine wpList_store_own rfl 32 _ _ rfl _ _ rfl rfl 32 _ (((((Own.new w _ _).below hB1 (by simp)).below hB2 (Nat.lt_of_lt_of_le (by simp) hB1.size)).alloc _).only hN3 (Nat.ne_of_lt (Nat.lt_of_lt_of_le (Nat.lt_of_lt_of_le (by simp) hB1.size) hB2.size))) (row26 (d17 _ _ (hl.out))) (z_eq (d17 _ _ hl.out)) (dcells_one _ _) ?_; intro w4 hO4 hN4))
  have b1 : Below w.heap.size w w1 := ((Below.refl _ w).alloc (Nat.le_refl _) _).trans (hB1.mono (by simp))
  have b2 : Below w.heap.size w w2 := b1.trans (hB2.mono b1.size)
  have b3 : Below w.heap.size w w3 := (b2.alloc b2.size _).trans (hN3.below.mono b2.size)
  refine bodyPost_ret (v := .agg (dcells n ms)) (results_cell_row rfl _ _ _ _ _ (0, 0) _ rfl (hO4) Tryd.underlying32 rfl (row26 (d17 _ _ (hl.out)))) rfl (⟨rfl, b3.trans (hN4.below.mono (Nat.le_refl _))⟩)
end Go.Proofs.YtopenojociafaaaDoor
