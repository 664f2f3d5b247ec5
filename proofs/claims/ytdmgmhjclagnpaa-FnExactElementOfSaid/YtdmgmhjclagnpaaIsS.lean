/- The contract of the model's test of diagrams. -/
import Derived.Test.YtdmgmhjclagnpaaSpecC
import Derived.Test.YtdmgmhjclagnpaaText
import Derived.Deep.QuietTactic
import Derived.BigQuiet
namespace Go.Proofs.Ytdmgmhjclagnpaa
open Go.RowKit
def mate (ms : List Int) (i : Int) : Int := ms.getD i.toNat 0
def lo (n : Int) (ms : List Int) (i : Int) : Int := min (pl n i) (pl n (mate ms i))
def hi (n : Int) (ms : List Int) (i : Int) : Int := max (pl n i) (pl n (mate ms i))
def OkAt (n : Int) (ms : List Int) (i : Int) : Prop := if 2 * n ≤ i then mate ms i = 0 else mate ms i < 2 * n ∧ mate ms i ≠ i ∧ mate ms (mate ms i) = i
def Cross (n : Int) (ms : List Int) (i k : Int) : Prop := lo n ms i < lo n ms k ∧ lo n ms k < hi n ms i ∧ hi n ms i < hi n ms k
def IsS (n : Int) (ms : List Int) : Prop := (1 ≤ n ∧ n ≤ 8) ∧ (∀ i : Nat, i < 16 → OkAt n ms i) ∧ ∀ i k : Nat, i < 2 * n → k < 2 * n → ¬ Cross n ms i k
theorem ret_two {a b c d : Int} (h : a = c) (h' : b = d) : Ending.returned (.tuple #[.int .i64 a, .int .i64 b]) = .returned (.tuple #[.int .i64 c, .int .i64 d]) := by rw [h, h']
set_option maxRecDepth 100000 in
set_option maxHeartbeats 400000 in
theorem endsS_any (n : Int) (ms : List Int) (hms : ms.length = 16) (hb : Bytes ms) (i : Nat) (hi16 : i < 16) (w : World) (h1 : 1 ≤ n) (h8 : n ≤ 8) :
    Calls Try.prog 76 #[.agg (dcells n ms), .int .i64 i] w fun e w' => e = .returned (.tuple #[.int .i64 (lo n ms i), .int .i64 (hi n ms i)]) ∧ Below w.heap.size w w' := by
  have hl := Lib.hid hms
  have c0 := dcells_zero n ms
  have c1 := dcells_get n ms i (by omega)
  obtain ⟨m, hm⟩ : ∃ m, ms.getD i 0 = m := ⟨_, rfl⟩
  have mb := hb.get i
  rw [hm] at c1 mb
  have e1 : lo n ms i = min (pl n i) (pl n m) := by unfold lo mate; rw [Int.toNat_natCast, hm]
  have e2 : hi n ms i = max (pl n i) (pl n m) := by unfold hi mate; rw [Int.toNat_natCast, hm]
  rw [e1, e2]
  obtain ⟨mb1, mb2⟩ := mb
  clear hms hb hm e1 e2
  go_enter Try.func76, Try.ntmps76
  go_wp2
  have hOa : Own (w.alloc (.cells (dcells n ms) 53)) w.heap.size (dcells n ms) 53 := Own.new _ _ _
  have hBa : Below w.heap.size w (w.alloc (.cells (dcells n ms) 53)) := (Below.refl _ _).alloc (Nat.le_refl _) _
  generalize w.alloc (.cells (dcells n ms) 53) = wa at *
  refine wp_region_still_lit (by kernel_rfl) (by kernel_rfl) ?_
  have hO : Own { wa with drawn := wa.drawn + 1 } w.heap.size (dcells n ms) 53 := hOa
  have hB : Below w.heap.size w { wa with drawn := wa.drawn + 1 } := hBa.drew
  clear hOa hBa
  generalize ({ wa with drawn := wa.drawn + 1 } : World) = wd at *
  have k0 := hO.cell 0
  rw [c0] at k0
  have k1 := hO.cell (1 + i)
  rw [c1] at k1
  have hi16' : (i : Int) < 16 := by omega
  clear c0 c1
  have ci := Lib.hid (placeS_any n i wd (by omega) h8 (by omega) (by omega))
  have cm := Lib.hid (placeS_any n m wd (by omega) h8 mb1 mb2)
  have hwr : IntKind.i64.wrap m = m := IntWalk.i64_in _ (by omega)
  still_step
  still_step
  still_step
  still_call ci.out
  still_step
  still_step
  still_step
  still_step
  still_step
  still_step
  still_step
  still_call cm.out
  still_step
  still_step
  refine wpStill_nil ?_
  clear hwr
  go_wp2
  all_goals
    go_ret2
    exact ⟨ret_two (by omega) (by omega), hB⟩
instance (n : Int) (ms : List Int) (i : Int) : Decidable (OkAt n ms i) := by unfold OkAt; exact inferInstance
instance (n : Int) (ms : List Int) (i k : Int) : Decidable (Cross n ms i k) := by unfold Cross; exact inferInstance
def IsPost (n : Int) (ms : List Int) (w : World) (e : Ending) (w' : World) : Prop := ∃ b : Bool, e = .returned (.bool b) ∧ (b = true ↔ IsS n ms) ∧ Below w.heap.size w w'
theorem IsPost.no {n : Int} {ms : List Int} {w w' : World} (h : ¬ IsS n ms) (hb : Below w.heap.size w w') : IsPost n ms w (.returned (.bool false)) w' := ⟨false, rfl, by simp [h], hb⟩
theorem IsPost.yes {n : Int} {ms : List Int} {w w' : World} (h : IsS n ms) (hb : Below w.heap.size w w') : IsPost n ms w (.returned (.bool true)) w' := ⟨true, rfl, by simp [h], hb⟩
theorem not_ok {n : Int} {ms : List Int} {i : Nat} (hi : i < 16) (h : ¬ OkAt n ms i) : ¬ IsS n ms := fun hs => h (hs.2.1 i hi)
theorem mate_nat (ms : List Int) (i : Nat) : mate ms i = ms.getD i 0 := by unfold mate; rw [Int.toNat_natCast]
set_option maxRecDepth 100000 in
theorem l01Is_size (n : Int) (ms : List Int) (hms : ms.length = 16) (w : World) (h : n < 1 ∨ 8 < n) :
    Calls Try.prog 54 #[.agg (dcells n ms)] w (IsPost n ms w) := by
  have hl := Lib.hid hms
  have c0 := dcells_zero n ms
  have hh := Lib.hid h
  have hn := Lib.hid (show ¬ IsS n ms from fun hs => by have := hs.1; omega)
  clear hms h
  go_enter Try.func54, Try.ntmps54
  go_wp2_with (first
    | (go_at_call 49; ((with_reducible refine (inS_f _ _ _ _ hh.out).mono ?_); rintro e w0 ⟨rfl, rfl⟩)))
  go_ret
  exact IsPost.no hn.out ((Below.refl _ _).alloc (Nat.le_refl _) _)
set_option maxRecDepth 100000 in
set_option maxHeartbeats 1000000 in
theorem l01Is_ok (n : Int) (ms : List Int) (hms : ms.length = 16) (hb : Bytes ms) (w : World) (h1 : 1 ≤ n) (h8 : n ≤ 8) :
    Calls Try.prog 54 #[.agg (dcells n ms)] w (IsPost n ms w) := by
  have hl := Lib.hid hms
  have hbb := Lib.hid hb
  have c0 := dcells_zero n ms
  clear hms hb
  go_enter Try.func54, Try.ntmps54
  go_wp2_with (first
    | (go_at_call 49; ((with_reducible refine (inS_t _ _ _ _ (by omega) (by omega)).mono ?_); rintro e w0 ⟨rfl, rfl⟩)))
  have hOa : Own (w.alloc (.cells (dcells n ms) 53)) w.heap.size (dcells n ms) 53 := Own.new _ _ _
  have hBa : Below w.heap.size w (w.alloc (.cells (dcells n ms) 53)) := (Below.refl _ _).alloc (Nat.le_refl _) _
  generalize w.alloc (.cells (dcells n ms) 53) = wa at *
  clear c0
  go_loop [4] (fun i => ∃ k : Nat, k ≤ 16 ∧ i = .int .i64 k ∧ Hid (∀ j : Nat, j < k → OkAt n ms j)) (fun i => (16 - intOf i).toNat)
  case atStart => exact ⟨0, by omega, rfl, Lib.hid (fun j hj => by omega)⟩
  case round =>
    obtain ⟨k, hk, rfl, hJ⟩ := hrel
    by_cases hlt : k < 16
    · have hm := Lib.hid (mate_nat ms k)
      have c1 : wa.cell? ⟨w.heap.size, 1 + k, none⟩ = some (.int .u8 (mate ms k)) := by rw [hm.out, hOa.cell, dcells_get _ _ _ (by rw [hl.out]; omega)]
      have mb := hbb.out.get k
      rw [← hm.out] at mb
      obtain ⟨m, hmm⟩ : ∃ m, mate ms k = m := ⟨_, rfl⟩
      rw [hmm] at c1 mb
      have hM := Lib.hid hmm
      obtain ⟨mb1, mb2⟩ := mb
      clear hmm hm
      have hlt' : (k : Int) < 16 := by omega
      by_cases g1 : 2 * n ≤ (k : Int)
      · by_cases g2 : m = 0
        · have hJ2 : Hid (∀ j : Nat, j < k + 1 → OkAt n ms j) := Lib.hid (fun j hj => by
            by_cases e : j < k
            · exact hJ.out j e
            · have e2 : j = k := by omega
              subst e2; unfold OkAt; rw [if_pos g1, hM.out]; exact g2)
          have b2 : (m != 0) = false := by simpa using g2
          clear g2
          go_wp2
          go_round
          case rel => exact ⟨k + 1, by omega, by go_num, hJ2⟩
          case measure => simp [intOf]; omega
        · have b2 : (m != 0) = true := by simpa using g2
          have hn := Lib.hid (not_ok hlt (show ¬ OkAt n ms k by unfold OkAt; rw [if_pos g1, hM.out]; exact g2))
          clear g2
          go_wp2
          go_ret
          exact IsPost.no hn.out hBa
      · by_cases g2 : 2 * n ≤ m
        · have hn := Lib.hid (not_ok hlt (show ¬ OkAt n ms k by unfold OkAt; rw [if_neg g1, hM.out]; omega))
          go_wp2
          go_ret
          exact IsPost.no hn.out hBa
        · by_cases g3 : m = k
          · have b3 : (m == (k : Int)) = true := by simpa using g3
            have hn := Lib.hid (not_ok hlt (show ¬ OkAt n ms k by unfold OkAt; rw [if_neg g1, hM.out]; omega))
            clear g3
            go_wp2
            go_ret
            exact IsPost.no hn.out hBa
          · have b3 : (m == (k : Int)) = false := by simpa using g3
            have hmn := Lib.hid (show mate ms m = ms.getD m.toNat 0 from rfl)
            have c2 : wa.cell? ⟨w.heap.size, 1 + m.toNat, none⟩ = some (.int .u8 (mate ms m)) := by rw [hmn.out, hOa.cell, dcells_get _ _ _ (by rw [hl.out]; omega)]
            have mb := hbb.out.get m.toNat
            rw [← hmn.out] at mb
            obtain ⟨m2, hmm2⟩ : ∃ m2, mate ms m = m2 := ⟨_, rfl⟩
            rw [hmm2] at c2 mb
            have hM2 := Lib.hid hmm2
            obtain ⟨mc1, mc2⟩ := mb
            have lm : m < 16 := by omega
            clear hmm2 hmn
            by_cases g4 : m2 = k
            · have b4 : (m2 != (k : Int)) = false := by simpa using g4
              have hok := Lib.hid (show OkAt n ms k by unfold OkAt; rw [if_neg g1, hM.out, hM2.out]; exact ⟨by omega, g3, g4⟩)
              have hJ2 : Hid (∀ j : Nat, j < k + 1 → OkAt n ms j) := Lib.hid (fun j hj => by
                by_cases e : j < k
                · exact hJ.out j e
                · have e2 : j = k := by omega
                  subst e2; exact hok.out)
              clear g3 g4
              go_wp2
              go_round
              case rel => exact ⟨k + 1, by omega, by go_num, hJ2⟩
              case measure => simp [intOf]; omega
            · have b4 : (m2 != (k : Int)) = true := by simpa using g4
              have hn := Lib.hid (not_ok hlt (show ¬ OkAt n ms k by unfold OkAt; rw [if_neg g1, hM.out, hM2.out]; exact fun h => g4 h.2.2))
              clear g3 g4
              go_wp2
              go_ret
              exact IsPost.no hn.out hBa
    · have hk16 : k = 16 := by omega
      subst hk16
      go_wp2
      go_loopw [6] (fun v wr => ∃ i : Nat, i ≤ 2 * n ∧ v = .int .i64 i ∧ Own wr w.heap.size (dcells n ms) 53 ∧ Below w.heap.size w wr ∧ Hid (∀ a : Nat, a < i → ∀ b : Nat, b < 2 * n → ¬ Cross n ms a b)) (fun v _ => (2 * n - intOf v).toNat)
      case atStart => exact ⟨0, by omega, rfl, hOa, hBa, Lib.hid (fun a ha => by omega)⟩
      case round =>
        clear hOa hBa
        obtain ⟨i, hib, rfl, hO, hB, hX⟩ := hrel
        by_cases hlt2 : (i : Int) < 2 * n
        · go_wp2_with (first
            | (refine wpList_load_row rfl 53 _ rfl _ rfl 53 _ (0, 0) _ (hO) Try.underlying53 rfl (row26 (d17 _ _ (hl.out))) ?_)
            | (go_at_call 76; ((with_reducible refine (endsS_any n ms hl.out hbb.out i (by omega) _ h1 h8).mono ?_); rintro e w2 ⟨rfl, hB2⟩)))
          have hO2 := hO.below hB2 hO.lt
          have hB2' : Below w.heap.size w w2 := hB.trans (hB2.mono hB.size)
          clear hO hB hB2
          go_loopw [9] (fun v wr => ∃ k : Nat, k ≤ 2 * n ∧ v = .int .i64 k ∧ Own wr w.heap.size (dcells n ms) 53 ∧ Below w.heap.size w wr ∧ Hid (∀ b : Nat, b < k → ¬ Cross n ms i b)) (fun v _ => (2 * n - intOf v).toNat)
          case atStart => exact ⟨0, by omega, rfl, hO2, hB2', Lib.hid (fun a ha => by omega)⟩
          case round =>
            clear hO2 hB2'
            obtain ⟨k, hk, rfl, hO, hB, hC⟩ := hrel
            by_cases hlt3 : (k : Int) < 2 * n
            · by_cases q1 : lo n ms i < lo n ms k
              · by_cases q2 : lo n ms k < hi n ms i
                · by_cases q3 : hi n ms i < hi n ms k
                  · have hn := Lib.hid (show ¬ IsS n ms from fun hs => hs.2.2 i k hlt2 hlt3 ⟨q1, q2, q3⟩)
                    go_wp2_with (first
                      | (refine wpList_load_row rfl 53 _ rfl _ rfl 53 _ (0, 0) _ (hO) Try.underlying53 rfl (row26 (d17 _ _ (hl.out))) ?_)
                      | (go_at_call 76; ((with_reducible refine (endsS_any n ms hl.out hbb.out k (by omega) _ h1 h8).mono ?_); rintro e w3 ⟨rfl, hB3⟩)))
                    go_ret
                    exact IsPost.no hn.out (hB.trans (hB3.mono hB.size))
                  · have hx := Lib.hid (show ¬ Cross n ms i k from fun h => q3 h.2.2)
                    have hC2 : Hid (∀ b : Nat, b < k + 1 → ¬ Cross n ms i b) := Lib.hid (fun b hb => by
                      by_cases e : b < k
                      · exact hC.out b e
                      · have e2 : b = k := by omega
                        subst e2; exact hx.out)
                    clear hx
                    go_wp2_with (first
                      | (refine wpList_load_row rfl 53 _ rfl _ rfl 53 _ (0, 0) _ (hO) Try.underlying53 rfl (row26 (d17 _ _ (hl.out))) ?_)
                      | (go_at_call 76; ((with_reducible refine (endsS_any n ms hl.out hbb.out k (by omega) _ h1 h8).mono ?_); rintro e w3 ⟨rfl, hB3⟩)))
                    have hO2 := hO.below hB3 hO.lt
                    have hB2 : Below w.heap.size w w3 := hB.trans (hB3.mono hB.size)
                    go_roundw
                    case rel => exact ⟨k + 1, by omega, by go_num, hO2, hB2, hC2⟩
                    case measure => simp [intOf]; omega
                · have hx := Lib.hid (show ¬ Cross n ms i k from fun h => q2 h.2.1)
                  have hC2 : Hid (∀ b : Nat, b < k + 1 → ¬ Cross n ms i b) := Lib.hid (fun b hb => by
                    by_cases e : b < k
                    · exact hC.out b e
                    · have e2 : b = k := by omega
                      subst e2; exact hx.out)
                  clear hx
                  go_wp2_with (first
                    | (refine wpList_load_row rfl 53 _ rfl _ rfl 53 _ (0, 0) _ (hO) Try.underlying53 rfl (row26 (d17 _ _ (hl.out))) ?_)
                    | (go_at_call 76; ((with_reducible refine (endsS_any n ms hl.out hbb.out k (by omega) _ h1 h8).mono ?_); rintro e w3 ⟨rfl, hB3⟩)))
                  have hO2 := hO.below hB3 hO.lt
                  have hB2 : Below w.heap.size w w3 := hB.trans (hB3.mono hB.size)
                  go_roundw
                  case rel => exact ⟨k + 1, by omega, by go_num, hO2, hB2, hC2⟩
                  case measure => simp [intOf]; omega
              · have hx := Lib.hid (show ¬ Cross n ms i k from fun h => q1 h.1)
                have hC2 : Hid (∀ b : Nat, b < k + 1 → ¬ Cross n ms i b) := Lib.hid (fun b hb => by
                  by_cases e : b < k
                  · exact hC.out b e
                  · have e2 : b = k := by omega
                    subst e2; exact hx.out)
                clear hx
                go_wp2_with (first
                  | (refine wpList_load_row rfl 53 _ rfl _ rfl 53 _ (0, 0) _ (hO) Try.underlying53 rfl (row26 (d17 _ _ (hl.out))) ?_)
                  | (go_at_call 76; ((with_reducible refine (endsS_any n ms hl.out hbb.out k (by omega) _ h1 h8).mono ?_); rintro e w3 ⟨rfl, hB3⟩)))
                have hO2 := hO.below hB3 hO.lt
                have hB2 : Below w.heap.size w w3 := hB.trans (hB3.mono hB.size)
                go_roundw
                case rel => exact ⟨k + 1, by omega, by go_num, hO2, hB2, hC2⟩
                case measure => simp [intOf]; omega
            · have hX2 : Hid (∀ a : Nat, a < i + 1 → ∀ b : Nat, b < 2 * n → ¬ Cross n ms a b) := Lib.hid (fun a ha b hb => by
                by_cases e : a < i
                · exact hX.out a e b hb
                · have e2 : a = i := by omega
                  subst e2; exact hC.out b (by omega))
              go_wp2
              go_roundw
              case rel => exact ⟨i + 1, by omega, by go_num, hO, hB, hX2⟩
              case measure => simp [intOf]; omega
        · have hy := Lib.hid (show IsS n ms from ⟨⟨h1, h8⟩, hJ.out, fun a b ha hb => hX.out a (by omega) b hb⟩)
          go_wp2
          go_ret
          exact IsPost.yes hy.out hB
theorem l01Is_any (n : Int) (ms : List Int) (hms : ms.length = 16) (hb : Bytes ms) (w : World) :
    Calls Try.prog 54 #[.agg (dcells n ms)] w (IsPost n ms w) := by
  by_cases h : 1 ≤ n ∧ n ≤ 8
  · exact l01Is_ok n ms hms hb w h.1 h.2
  · exact l01Is_size n ms hms w (by omega)
end Go.Proofs.Ytdmgmhjclagnpaa
