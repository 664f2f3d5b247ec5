/- The contract of the program's text of two halves. -/
import Derived.Test.YtopenojociafaaaDoorTohM
import Derived.Test.YtopenojociafaaaDoorByf
import Derived.Test.YtopenojociafaaaDoorShelf
namespace Go.Proofs.YtopenojociafaaaDoor
open Go.RowKit
/-- The library's own variable holds some number. -/
def Ml (w : World) (m : Int) : Prop := w.cell? ⟨0, 0, none⟩ = some (.int .i64 m)
theorem Ml.below {w w' : World} {m : Int} {B : Nat} (h : Ml w m) (hb : Below B w w') (hB : 0 < B) : Ml w' m := by
  unfold Ml at *
  rw [← h]; exact World.cell?_of_block (hb.block 0 hB)
theorem Ml.lt {w : World} {m : Int} (h : Ml w m) : 0 < w.heap.size := World.block_lt_of_cell? _ _ h
theorem repI_any (a : ByteArray) (m : Int) (w : World) (hm : Ml w m) (ha : a.size ≤ 1048576) :
    Calls Tryd.prog 83 #[.string a, .string ⟨#[124]⟩, .string ⟨#[40]⟩] w fun e w' => e = .returned (.string ⟨(rep1 a.data.toList).toArray⟩) ∧ Below w.heap.size w w' := by
  have hc : Lib.countB a ⟨#[124]⟩ ≤ a.size + 1 := by
    have := Lib.count_le a.data.toList [124]
    rw [Array.length_toList] at this
    exact this
  have h := Tryd.strings_ReplaceAll a ⟨#[124]⟩ ⟨#[40]⟩ m w (by omega) hm (Nat.le_refl _) (by have e : (⟨#[40]⟩ : ByteArray).size = 1 := rfl; rw [e]; omega)
  have e : Lib.replaceAll a.data.toList (⟨#[124]⟩ : ByteArray).data.toList (⟨#[40]⟩ : ByteArray).data.toList = rep1 a.data.toList := rep_all _
  rw [e] at h
  exact h
set_option maxRecDepth 100000 in
set_option maxHeartbeats 1000000 in
theorem tohI_any (a b : ByteArray) (m : Int) (w : World) (hm : Ml w m) (ha : a.size ≤ 1048576) (hb : b.size ≤ 1048576) :
    Calls Tryd.prog 73 #[.string a, .string b] w fun e w' => e = .returned (.string ⟨(tohL a.data.toList b.data.toList).toArray⟩) ∧ Below w.heap.size w w' := by
  have hr := Lib.hid (repI_any a m w hm ha)
  obtain ⟨A, hA⟩ : ∃ A : ByteArray, (⟨(rep1 a.data.toList).toArray⟩ : ByteArray) = A := ⟨_, rfl⟩
  have hAl : A.data.toList = rep1 a.data.toList := by rw [← hA]
  have hAs : A.size = a.size := by
    have : A.data.toList.length = a.data.toList.length := by rw [hAl, rep_len]
    simpa using this
  have HA := Lib.hid hAl
  rw [hA] at hr
  have hAs2 : A.size ≤ 1048576 := by omega
  clear hA hAl hm
  go_enter Tryd.func73, Tryd.ntmps73
  go_wp2_with (first
    | (go_at_call 83; ((with_reducible refine hr.out.mono ?_); rintro e w1 ⟨rfl, hB1⟩)))
  have hB2 : Below w.heap.size w (Lib.bytesWorld w1 5 A) := hB1.trans (below_conv w1 _ A hB1.size)
  have hI2 : Byf (Lib.bytesWorld w1 5 A) w.heap.size w1.heap.size (grownCap w1 A.size 0 5) (LI (rep1 a.data.toList ++ turn1 (b.data.toList.drop b.size))) := by
    have h := Byf.conv w1 w.heap.size A hB1.size (by omega)
    rw [HA.out] at h
    rw [List.drop_eq_nil_of_le (by rw [Array.length_toList]; exact Nat.le_refl _)]
    simpa [turn1] using h
  have hl2 : (LI (rep1 a.data.toList ++ turn1 (b.data.toList.drop b.size))).length = a.size := by
    rw [LI_len, List.length_append, rep_len, turn_len, List.drop_eq_nil_of_le (by rw [Array.length_toList]; exact Nat.le_refl _), Array.length_toList]; rfl
  rw [Lib.run_convert_string_bytes (P := Tryd.prog) w1 9 69 5 A Tryd.underlying9 Tryd.underlying69 Tryd.underlying5]
  simp only [Result.andThen]
  rw [Oper.upon_value]
  obtain ⟨W1, hW1⟩ : ∃ W1, W1 = Lib.bytesWorld w1 5 A := ⟨_, rfl⟩
  obtain ⟨g1, hg1⟩ : ∃ g1, g1 = w1.heap.size := ⟨_, rfl⟩
  obtain ⟨c1, hc1⟩ : ∃ c1, c1 = grownCap w1 A.size 0 5 := ⟨_, rfl⟩
  rw [← hW1, ← hg1, ← hc1] at hI2 ⊢
  rw [← hW1] at hB2
  have K1 := Lib.hid hI2
  have K2 := Lib.hid hB2
  have K3 := Lib.hid hl2
  clear hI2 hB2 hl2 hW1 hg1 hc1 hB1
  go_wp2
  go_loopw [5, 6] (fun v i wr => ∃ (k : Nat) (q : Int) (g cap : Nat) (xs : List Int), k ≤ b.size ∧ i = .int .i64 q ∧ q = (k : Int) - 1 ∧ v = bval g cap xs ∧ Hid (xs = LI (rep1 a.data.toList ++ turn1 (b.data.toList.drop k))) ∧ Byf wr w.heap.size g cap xs ∧ Below w.heap.size w wr) (fun _ i _ => (intOf i + 1).toNat)
  case atStart => exact ⟨b.size, _, _, _, _, Nat.le_refl _, rfl, rfl, by rw [bval, K3.out], Lib.hid rfl, K1.out, K2.out⟩
  case round =>
    clear K1 K2 K3 HA hr
    obtain ⟨k, q, g, cap, xs, hk, rfl, hq, rfl, hX, hI, hB⟩ := hrel
    have hxl : xs.length ≤ 2097152 := by
      rw [hX.out, LI_len, List.length_append, rep_len, turn_len, List.length_drop, Array.length_toList, Array.length_toList]
      have : a.data.size = a.size := rfl
      have : b.data.size = b.size := rfl
      omega
    cases k with
    | zero =>
      have hqn : q < 0 := by omega
      clear hq
      have hcv := run_convert_bytes_arg wr 69 5 Tryd.underlying69 Tryd.underlying5 g 0 xs.length cap xs rfl
        (fun i hi => by rw [Nat.zero_add]; exact hI.cell i hi) 9 Tryd.underlying9
      have he : strOfNums xs = ⟨(tohL a.data.toList b.data.toList).toArray⟩ := by rw [hX.out, LI_str]; rfl
      rw [he] at hcv
      obtain ⟨n, hn⟩ : ∃ n, xs.length = n := ⟨_, rfl⟩
      have HN := Lib.hid hn
      have e2 : bval g cap xs = .slice (some ⟨g, 0, none⟩) n cap := by rw [bval, hn]
      rw [hn] at hcv
      rw [e2]
      clear he hxl hn e2
      go_wp2
      go_ret
      exact ⟨rfl, hB⟩
    | succ j =>
      have e : q = (j : Int) := by omega
      subst e
      have hjs : j < b.size := by omega
      have HG := Lib.hid (get_list b j hjs)
      have HT := Lib.hid (turn_step b.data.toList j (by rw [Array.length_toList]; exact hjs))
      have hst : ∀ y : UInt8, tr b[j] = y → xs ++ [((y.toNat : Nat) : Int)] = LI (rep1 a.data.toList ++ turn1 (b.data.toList.drop j)) := by
        intro y hy
        rw [HT.out, hX.out, ← List.append_assoc]
        have : b.data.toList[j]'(by rw [Array.length_toList]; exact hjs) = b[j] := rfl
        rw [this, hy]
        simp [LI]
      have HS := Lib.hid hst
      have hl0 : ((xs.length : Nat) : Int) ≤ 2097152 := by omega
      have e2 : bval g cap xs = .slice (some ⟨g, 0, none⟩) xs.length cap := rfl
      have hbl : (b.size : Int) ≤ 1048576 := by omega
      rw [e2]
      clear hst e2 hq HT
      by_cases c41 : b[j] = 41
      · have b41 : ((b[j].toNat : Int) == 41) = true := by rw [c41]; rfl
        have HX := Lib.hid (HS.out 40 (by rw [c41]; rfl))
        clear c41
        go_wp2_with (first
          | (refine wpList_append_byf rfl (.tmp 28) (.tmp 29) rfl w.heap.size g cap xs 40 rfl (hI.alloc _) ⟨wr.heap.size, 0, none⟩ 1 rfl ((Own.new _ _ _).cell 0) (by omega) (by have := hB.size; simp; omega) ?_; intro g2 cap2 w2 hI2 hG2))
        have hB2 : Below w.heap.size w w2 := (hB.alloc hB.size _).grown hG2 (by have := hB.size; simp; omega) (fun k e => by have := hI.1; simp at e; omega)
        clear hI hB hG2
        go_wp2
        go_roundw
        case rel => exact ⟨j, _, g2, cap2, _, by omega, rfl, rfl, rfl, Lib.hid HX.out, hI2, hB2⟩
        case measure => simp [intOf] <;> omega
      · have b41 : ((b[j].toNat : Int) == 41) = false := byte_ne b[j] 41 c41
        by_cases c40 : b[j] = 40
        · have b40 : ((b[j].toNat : Int) == 40) = true := by rw [c40]; rfl
          have HX := Lib.hid (HS.out 41 (by rw [c40]; rfl))
          clear c40 c41
          go_wp2_with (first
            | (refine wpList_append_byf rfl (.tmp 35) (.tmp 36) rfl w.heap.size g cap xs 41 rfl (hI.alloc _) ⟨wr.heap.size, 0, none⟩ 1 rfl ((Own.new _ _ _).cell 0) (by omega) (by have := hB.size; simp; omega) ?_; intro g2 cap2 w2 hI2 hG2))
          have hB2 : Below w.heap.size w w2 := (hB.alloc hB.size _).grown hG2 (by have := hB.size; simp; omega) (fun k e => by have := hI.1; simp at e; omega)
          clear hI hB hG2
          go_wp2
          go_roundw
          case rel => exact ⟨j, _, g2, cap2, _, by omega, rfl, rfl, rfl, Lib.hid HX.out, hI2, hB2⟩
          case measure => simp [intOf] <;> omega
        · have b40 : ((b[j].toNat : Int) == 40) = false := byte_ne b[j] 40 c40
          by_cases c124 : b[j] = 124
          · have b124 : ((b[j].toNat : Int) == (((⟨#[124]⟩ : ByteArray)[0]'(by decide)).toNat : Nat)) = true := by rw [c124]; rfl
            have HX := Lib.hid (HS.out 41 (by rw [c124]; rfl))
            clear c40 c41 c124
            go_wp2_with (first
              | (refine wpList_append_byf rfl (.tmp 35) (.tmp 36) rfl w.heap.size g cap xs 41 rfl (hI.alloc _) ⟨wr.heap.size, 0, none⟩ 1 rfl ((Own.new _ _ _).cell 0) (by omega) (by have := hB.size; simp; omega) ?_; intro g2 cap2 w2 hI2 hG2))
            have hB2 : Below w.heap.size w w2 := (hB.alloc hB.size _).grown hG2 (by have := hB.size; simp; omega) (fun k e => by have := hI.1; simp at e; omega)
            clear hI hB hG2
            go_wp2
            go_roundw
            case rel => exact ⟨j, _, g2, cap2, _, by omega, rfl, rfl, rfl, Lib.hid HX.out, hI2, hB2⟩
            case measure => simp [intOf] <;> omega
          · have b124 : ((b[j].toNat : Int) == (((⟨#[124]⟩ : ByteArray)[0]'(by decide)).toNat : Nat)) = false := byte_ne b[j] 124 c124
            have HX := Lib.hid (HS.out b[j] (by unfold tr; rw [if_neg c41, if_neg (by rintro (h | h) <;> contradiction)]))
            clear c40 c41 c124
            go_wp2_with (first
              | (refine wpList_append_byf rfl (.tmp 20) (.tmp 24) rfl w.heap.size g cap xs ((b[j].toNat : Nat) : Int) rfl (hI.alloc _) ⟨wr.heap.size, 0, none⟩ 1 rfl ((Own.new _ _ _).cell 0) (by omega) (by have := hB.size; simp; omega) ?_; intro g2 cap2 w2 hI2 hG2))
            have hB2 : Below w.heap.size w w2 := (hB.alloc hB.size _).grown hG2 (by have := hB.size; simp; omega) (fun k e => by have := hI.1; simp at e; omega)
            clear hI hB hG2
            go_wp2
            go_roundw
            case rel => exact ⟨j, _, g2, cap2, _, by omega, rfl, rfl, rfl, Lib.hid HX.out, hI2, hB2⟩
            case measure => simp [intOf] <;> omega
end Go.Proofs.YtopenojociafaaaDoor
