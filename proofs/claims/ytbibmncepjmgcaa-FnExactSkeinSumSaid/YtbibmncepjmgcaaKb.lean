/- The plain function that writes a diagram as a text, and the contract of the program's own. The contract of the model's test of diagrams. Plain mathematics: a diagram comes back from its text. Two diagrams are compared as values: true exactly if sizes and mates are equal. The contract of the program's IsDiagram. Plain mathematics: what a text is read as is a diagram. A diagram among a law's arguments, opened: its size is an int64, its mates are sixteen bytes. -/
import Derived.Test.YtbibmncepjmgcaaKa
import Derived.Deep.QuietTactic
import Derived.BigQuiet
import Derived.ProofKit
import Derived.OpenShut
namespace Go.Proofs.Ytbibmncepjmgcaa
open Go.RowKit
/-- The byte at a place. -/
def chAt (n : Int) (ms : List Int) (p : Nat) : Int := if (p : Int) < pl n (ms.getD (pl n p).toNat 0) then 40 else 41
/-- The bytes of the first k places, and zeros behind them. -/
def letL (n : Int) (ms : List Int) (N : Nat) : Nat → List Int
  | 0 => List.replicate (2 * N) 0
  | k + 1 => (letL n ms N k).set k (chAt n ms k)
def textS (n : Int) (ms : List Int) : ByteArray := strOfNums (letL n ms n.toNat (2 * n.toNat))
theorem letL_len (n : Int) (ms : List Int) (N k : Nat) : (letL n ms N k).length = 2 * N := by
  induction k with
  | zero => simp [letL]
  | succ k ih => simp [letL, ih]
/-- All are bytes. -/
def Bytes (ms : List Int) : Prop := ∀ x ∈ ms, 0 ≤ x ∧ x ≤ 255
theorem Bytes.get {ms : List Int} (h : Bytes ms) (i : Nat) : 0 ≤ ms.getD i 0 ∧ ms.getD i 0 ≤ 255 := by
  rw [List.getD_eq_getElem?_getD]
  by_cases hi : i < ms.length
  · rw [List.getElem?_eq_getElem hi]; exact h _ (List.getElem_mem hi)
  · rw [List.getElem?_eq_none (by omega)]; simp
theorem makeN (N : Nat) (h1 : 1 ≤ N) (h8 : N ≤ 8) : ∀ w : World, (Instr.makeSlice 99 (.int .i64 (2 * (N : Int))) (.int .i64 (2 * (N : Int)))).run Try.prog w = .ok (.slice (some ⟨w.heap.size, 0, none⟩) (2 * N) (2 * N)) (w.alloc (.cells (mcells (List.replicate (2 * N) 0)) 5)) := by
  have h : N = 1 ∨ N = 2 ∨ N = 3 ∨ N = 4 ∨ N = 5 ∨ N = 6 ∨ N = 7 ∨ N = 8 := by omega
  rcases h with rfl | rfl | rfl | rfl | rfl | rfl | rfl | rfl <;> (intro w; kernel_rfl)
set_option maxRecDepth 100000 in
set_option maxHeartbeats 1000000 in
theorem textI_nat (N : Nat) (ms : List Int) (hms : ms.length = 16) (hb : Bytes ms) (w : World) (h1 : 1 ≤ N) (h8 : N ≤ 8) :
    Calls Try.prog 108 #[.agg (dcells N ms)] w fun e w' => e = .returned (.string (strOfNums (letL N ms N (2 * N)))) ∧ Below w.heap.size w w' := by
  have hl := Lib.hid hms
  have hbb := Lib.hid hb
  have c0 := dcells_zero N ms
  have hmk := makeN N h1 h8
  clear hms hb
  go_enter Try.func108, Try.ntmps108
  go_wp2
  clear hmk c0
  go_loopw [14] (fun i wr => ∃ k : Nat, k ≤ 2 * N ∧ i = .int .i64 k ∧ Own wr w.heap.size (dcells N ms) 53 ∧ Own wr (w.heap.size + 1) (mcells (letL N ms N k)) 5 ∧ Below w.heap.size w wr) (fun i _ => (2 * N - intOf i).toNat)
  case atStart => exact ⟨0, by omega, rfl, Own.alloc (Own.new _ _ _) _, Own.at _ _ _ (by simp), ((Below.refl _ _).alloc (Nat.le_refl _) _).alloc (by simp) _⟩
  case round =>
    obtain ⟨k, hk, rfl, hO, hT, hB⟩ := hrel
    have hll := letL_len N ms N k
    by_cases hlt : k < 2 * N
    · have pb := pl_bd N k (by omega) (by omega) (by omega)
      obtain ⟨p, hp⟩ : ∃ p, pl N k = p := ⟨_, rfl⟩
      rw [hp] at pb
      have c1 : wr.cell? ⟨w.heap.size, 1 + p.toNat, none⟩ = some (.int .u8 (ms.getD p.toNat 0)) := by rw [hO.cell, dcells_get _ _ _ (by rw [hl.out]; omega)]
      obtain ⟨m, hm⟩ : ∃ m, ms.getD p.toNat 0 = m := ⟨_, rfl⟩
      have mb := hbb.out.get p.toNat
      rw [hm] at c1 mb
      have hch := Lib.hid (show chAt N ms k = if (k : Int) < pl N m then 40 else 41 by unfold chAt; rw [hp, hm])
      have c2 : wr.cell? ⟨w.heap.size + 1, k, none⟩ = some (.int .u8 ((letL N ms N k).getD k 0)) := by rw [hT.cell, mcells_get _ _ (by omega)]
      have c3 : (wr.setCell ⟨w.heap.size + 1, k, none⟩ (.int .u8 41)).cell? ⟨w.heap.size + 1, k, none⟩ = some (.int .u8 41) := by rw [(hT.set _ _).cell, mcells_set, mcells_get _ _ (by simp; omega)]; simp [hll, hlt]
      have f2 := hT.free k
      have hP := Lib.hid hp
      have hM := Lib.hid hm
      have hLL := Lib.hid hll
      clear hp hm hll
      by_cases hc : (k : Int) < pl N m
      · have hT2 : Own ((wr.setCell ⟨w.heap.size + 1, k, none⟩ (.int .u8 41)).setCell ⟨w.heap.size + 1, k, none⟩ (.int .u8 40)) (w.heap.size + 1) (mcells (letL N ms N (k + 1))) 5 := by
          have := (hT.set k (.int .u8 41)).set k (.int .u8 40)
          rw [mcells_set, mcells_set, List.set_set] at this
          rw [letL, hch.out, if_pos hc]; exact this
        have hO2 : Own ((wr.setCell ⟨w.heap.size + 1, k, none⟩ (.int .u8 41)).setCell ⟨w.heap.size + 1, k, none⟩ (.int .u8 40)) w.heap.size (dcells N ms) 53 := (hO.other (by simp) _).other (by simp) _
        have hB2 : Below w.heap.size w ((wr.setCell ⟨w.heap.size + 1, k, none⟩ (.int .u8 41)).setCell ⟨w.heap.size + 1, k, none⟩ (.int .u8 40)) := (hB.setCell (by simp) _).setCell (by simp) _
        have K1 := Lib.hid hT2
        have K2 := Lib.hid hO2
        have K3 := Lib.hid hB2
        clear hT2 hO2 hB2 hT
        go_wp2_with (first
          | (go_at_call 117; ((with_reducible refine ((pointI_any N k _ (by omega) (by omega) (by omega) (by omega)).mono (fun e w' h => (by rw [hP.out] at h; exact h : e = .returned (.int .i64 p) ∧ _))).mono ?_); rintro e w0 ⟨rfl, rfl⟩))
          | (go_at_call 118; ((with_reducible refine (placeI_any N m _ (by omega) (by omega) (by omega) (by omega)).mono ?_); rintro e w0 ⟨rfl, rfl⟩)))
        go_roundw
        case rel => exact ⟨k + 1, by omega, by go_num, K2.out, K1.out, K3.out⟩
        case measure => simp [intOf]; omega
      · have hT2 : Own (wr.setCell ⟨w.heap.size + 1, k, none⟩ (.int .u8 41)) (w.heap.size + 1) (mcells (letL N ms N (k + 1))) 5 := by
          have := hT.set k (.int .u8 41)
          rw [mcells_set] at this
          rw [letL, hch.out, if_neg hc]; exact this
        have hO2 : Own (wr.setCell ⟨w.heap.size + 1, k, none⟩ (.int .u8 41)) w.heap.size (dcells N ms) 53 := hO.other (by simp) _
        have hB2 : Below w.heap.size w (wr.setCell ⟨w.heap.size + 1, k, none⟩ (.int .u8 41)) := hB.setCell (by simp) _
        have K1 := Lib.hid hT2
        have K2 := Lib.hid hO2
        have K3 := Lib.hid hB2
        clear hT2 hO2 hB2 hT
        go_wp2_with (first
          | (go_at_call 117; ((with_reducible refine ((pointI_any N k _ (by omega) (by omega) (by omega) (by omega)).mono (fun e w' h => (by rw [hP.out] at h; exact h : e = .returned (.int .i64 p) ∧ _))).mono ?_); rintro e w0 ⟨rfl, rfl⟩))
          | (go_at_call 118; ((with_reducible refine (placeI_any N m _ (by omega) (by omega) (by omega) (by omega)).mono ?_); rintro e w0 ⟨rfl, rfl⟩)))
        go_roundw
        case rel => exact ⟨k + 1, by omega, by go_num, K2.out, K1.out, K3.out⟩
        case measure => simp [intOf]; omega
    · have hk2 : k = 2 * N := by omega
      subst hk2
      have hcv := run_convert_bytes_arg wr 99 5 Try.underlying99 Try.underlying5 (w.heap.size + 1) 0 (2 * N) (2 * N) (letL N ms N (2 * N)) hll
        (fun i hi => by rw [Nat.zero_add, hT.cell, mcells_get _ _ (by omega)]) 9 Try.underlying9
      have HLL := Lib.hid hll
      clear hll
      go_wp2
      go_ret
      exact ⟨rfl, hB⟩
theorem textI_any (n : Int) (ms : List Int) (hms : ms.length = 16) (hb : Bytes ms) (w : World) (h1 : 1 ≤ n) (h8 : n ≤ 8) :
    Calls Try.prog 108 #[.agg (dcells n ms)] w fun e w' => e = .returned (.string (textS n ms)) ∧ Below w.heap.size w w' := by
  have h := textI_nat n.toNat ms hms hb w (by omega) (by omega)
  have e1 : ((n.toNat : Nat) : Int) = n := by omega
  rw [e1] at h
  exact h
end Go.Proofs.Ytbibmncepjmgcaa
namespace Go.Proofs.Ytbibmncepjmgcaa
open Go.RowKit
def mate (ms : List Int) (i : Int) : Int := ms.getD i.toNat 0
def lo (n : Int) (ms : List Int) (i : Int) : Int := min (pl n i) (pl n (mate ms i))
def hi (n : Int) (ms : List Int) (i : Int) : Int := max (pl n i) (pl n (mate ms i))
def OkAt (n : Int) (ms : List Int) (i : Int) : Prop := if 2 * n ≤ i then mate ms i = 0 else mate ms i < 2 * n ∧ mate ms i ≠ i ∧ mate ms (mate ms i) = i
def Cross (n : Int) (ms : List Int) (i k : Int) : Prop := lo n ms i < lo n ms k ∧ lo n ms k < hi n ms i ∧ hi n ms i < hi n ms k
def IsS (n : Int) (ms : List Int) : Prop := (1 ≤ n ∧ n ≤ 8) ∧ (∀ i : Nat, i < 16 → OkAt n ms i) ∧ ∀ i k : Nat, i < 2 * n → k < 2 * n → ¬ Cross n ms i k
theorem ret_two {a b c d : Int} (h : a = c) (h' : b = d) : Ending.returned (.tuple #[.int .i64 a, .int .i64 b]) = .returned (.tuple #[.int .i64 c, .int .i64 d]) := by rw [h, h']
set_option maxRecDepth 100000 in
set_option maxHeartbeats 400000 in
theorem endsS_any (n : Int) (ms : List Int) (hms : ms.length = 16) (hb : Bytes ms) (i : Nat) (hi16 : i < 16) (w : World) (h1 : 1 ≤ n) (h8 : n ≤ 8) :
    Calls Try.prog 103 #[.agg (dcells n ms), .int .i64 i] w fun e w' => e = .returned (.tuple #[.int .i64 (lo n ms i), .int .i64 (hi n ms i)]) ∧ Below w.heap.size w w' := by
  have hl := Lib.hid hms
  have c0 := dcells_zero n ms
  have c1 := dcells_get n ms i (by omega)
  obtain ⟨m, hm⟩ : ∃ m, ms.getD i 0 = m := ⟨_, rfl⟩
  have mb := hb.get i
  rw [hm] at c1 mb
  have e1 : lo n ms i = min (pl n i) (pl n m) := by unfold lo mate; rw [Int.toNat_natCast, hm]
  have e2 : hi n ms i = max (pl n i) (pl n m) := by unfold hi mate; rw [Int.toNat_natCast, hm]
  rw [e1, e2]
  obtain ⟨mb1, mb2⟩ := mb
  clear hms hb hm e1 e2
  go_enter Try.func103, Try.ntmps103
  go_wp2
  have hOa : Own (w.alloc (.cells (dcells n ms) 53)) w.heap.size (dcells n ms) 53 := Own.new _ _ _
  have hBa : Below w.heap.size w (w.alloc (.cells (dcells n ms) 53)) := (Below.refl _ _).alloc (Nat.le_refl _) _
  generalize w.alloc (.cells (dcells n ms) 53) = wa at *
  refine wp_region_still_lit (by kernel_rfl) (by kernel_rfl) ?_
  have hO : Own { wa with drawn := wa.drawn + 1 } w.heap.size (dcells n ms) 53 := hOa
  have hB : Below w.heap.size w { wa with drawn := wa.drawn + 1 } := hBa.drew
  clear hOa hBa
  generalize ({ wa with drawn := wa.drawn + 1 } : World) = wd at *
  have k0 := hO.cell 0
  rw [c0] at k0
  have k1 := hO.cell (1 + i)
  rw [c1] at k1
  have hi16' : (i : Int) < 16 := by omega
  clear c0 c1
  have ci := Lib.hid (placeS_any n i wd (by omega) h8 (by omega) (by omega))
  have cm := Lib.hid (placeS_any n m wd (by omega) h8 mb1 mb2)
  have hwr : IntKind.i64.wrap m = m := IntWalk.i64_in _ (by omega)
  still_step
  still_step
  still_step
  still_call ci.out
  still_step
  still_step
  still_step
  still_step
  still_step
  still_step
  still_step
  still_call cm.out
  still_step
  still_step
  refine wpStill_nil ?_
  clear hwr
  go_wp2
  all_goals
    go_ret2
    exact ⟨ret_two (by omega) (by omega), hB⟩
instance (n : Int) (ms : List Int) (i : Int) : Decidable (OkAt n ms i) := by unfold OkAt; exact inferInstance
instance (n : Int) (ms : List Int) (i k : Int) : Decidable (Cross n ms i k) := by unfold Cross; exact inferInstance
def IsPost (n : Int) (ms : List Int) (w : World) (e : Ending) (w' : World) : Prop := ∃ b : Bool, e = .returned (.bool b) ∧ (b = true ↔ IsS n ms) ∧ Below w.heap.size w w'
theorem IsPost.no {n : Int} {ms : List Int} {w w' : World} (h : ¬ IsS n ms) (hb : Below w.heap.size w w') : IsPost n ms w (.returned (.bool false)) w' := ⟨false, rfl, by simp [h], hb⟩
theorem IsPost.yes {n : Int} {ms : List Int} {w w' : World} (h : IsS n ms) (hb : Below w.heap.size w w') : IsPost n ms w (.returned (.bool true)) w' := ⟨true, rfl, by simp [h], hb⟩
theorem not_ok {n : Int} {ms : List Int} {i : Nat} (hi : i < 16) (h : ¬ OkAt n ms i) : ¬ IsS n ms := fun hs => h (hs.2.1 i hi)
theorem mate_nat (ms : List Int) (i : Nat) : mate ms i = ms.getD i 0 := by unfold mate; rw [Int.toNat_natCast]
set_option maxRecDepth 100000 in
theorem l01Is_size (n : Int) (ms : List Int) (hms : ms.length = 16) (w : World) (h : n < 1 ∨ 8 < n) :
    Calls Try.prog 66 #[.agg (dcells n ms)] w (IsPost n ms w) := by
  have hl := Lib.hid hms
  have c0 := dcells_zero n ms
  have hh := Lib.hid h
  have hn := Lib.hid (show ¬ IsS n ms from fun hs => by have := hs.1; omega)
  clear hms h
  go_enter Try.func66, Try.ntmps66
  go_wp2_with (first
    | (go_at_call 54; ((with_reducible refine (inS_f _ _ _ _ hh.out).mono ?_); rintro e w0 ⟨rfl, rfl⟩)))
  go_ret
  exact IsPost.no hn.out ((Below.refl _ _).alloc (Nat.le_refl _) _)
set_option maxRecDepth 100000 in
set_option maxHeartbeats 1000000 in
theorem l01Is_ok (n : Int) (ms : List Int) (hms : ms.length = 16) (hb : Bytes ms) (w : World) (h1 : 1 ≤ n) (h8 : n ≤ 8) :
    Calls Try.prog 66 #[.agg (dcells n ms)] w (IsPost n ms w) := by
  have hl := Lib.hid hms
  have hbb := Lib.hid hb
  have c0 := dcells_zero n ms
  clear hms hb
  go_enter Try.func66, Try.ntmps66
  go_wp2_with (first
    | (go_at_call 54; ((with_reducible refine (inS_t _ _ _ _ (by omega) (by omega)).mono ?_); rintro e w0 ⟨rfl, rfl⟩)))
  have hOa : Own (w.alloc (.cells (dcells n ms) 53)) w.heap.size (dcells n ms) 53 := Own.new _ _ _
  have hBa : Below w.heap.size w (w.alloc (.cells (dcells n ms) 53)) := (Below.refl _ _).alloc (Nat.le_refl _) _
  generalize w.alloc (.cells (dcells n ms) 53) = wa at *
  clear c0
  go_loop [4] (fun i => ∃ k : Nat, k ≤ 16 ∧ i = .int .i64 k ∧ Hid (∀ j : Nat, j < k → OkAt n ms j)) (fun i => (16 - intOf i).toNat)
  case atStart => exact ⟨0, by omega, rfl, Lib.hid (fun j hj => by omega)⟩
  case round =>
    obtain ⟨k, hk, rfl, hJ⟩ := hrel
    by_cases hlt : k < 16
    · have hm := Lib.hid (mate_nat ms k)
      have c1 : wa.cell? ⟨w.heap.size, 1 + k, none⟩ = some (.int .u8 (mate ms k)) := by rw [hm.out, hOa.cell, dcells_get _ _ _ (by rw [hl.out]; omega)]
      have mb := hbb.out.get k
      rw [← hm.out] at mb
      obtain ⟨m, hmm⟩ : ∃ m, mate ms k = m := ⟨_, rfl⟩
      rw [hmm] at c1 mb
      have hM := Lib.hid hmm
      obtain ⟨mb1, mb2⟩ := mb
      clear hmm hm
      have hlt' : (k : Int) < 16 := by omega
      by_cases g1 : 2 * n ≤ (k : Int)
      · by_cases g2 : m = 0
        · have hJ2 : Hid (∀ j : Nat, j < k + 1 → OkAt n ms j) := Lib.hid (fun j hj => by
            by_cases e : j < k
            · exact hJ.out j e
            · have e2 : j = k := by omega
              subst e2; unfold OkAt; rw [if_pos g1, hM.out]; exact g2)
          have b2 : (m != 0) = false := by simpa using g2
          clear g2
          go_wp2
          go_round
          case rel => exact ⟨k + 1, by omega, by go_num, hJ2⟩
          case measure => simp [intOf]; omega
        · have b2 : (m != 0) = true := by simpa using g2
          have hn := Lib.hid (not_ok hlt (show ¬ OkAt n ms k by unfold OkAt; rw [if_pos g1, hM.out]; exact g2))
          clear g2
          go_wp2
          go_ret
          exact IsPost.no hn.out hBa
      · by_cases g2 : 2 * n ≤ m
        · have hn := Lib.hid (not_ok hlt (show ¬ OkAt n ms k by unfold OkAt; rw [if_neg g1, hM.out]; omega))
          go_wp2
          go_ret
          exact IsPost.no hn.out hBa
        · by_cases g3 : m = k
          · have b3 : (m == (k : Int)) = true := by simpa using g3
            have hn := Lib.hid (not_ok hlt (show ¬ OkAt n ms k by unfold OkAt; rw [if_neg g1, hM.out]; omega))
            clear g3
            go_wp2
            go_ret
            exact IsPost.no hn.out hBa
          · have b3 : (m == (k : Int)) = false := by simpa using g3
            have hmn := Lib.hid (show mate ms m = ms.getD m.toNat 0 from rfl)
            have c2 : wa.cell? ⟨w.heap.size, 1 + m.toNat, none⟩ = some (.int .u8 (mate ms m)) := by rw [hmn.out, hOa.cell, dcells_get _ _ _ (by rw [hl.out]; omega)]
            have mb := hbb.out.get m.toNat
            rw [← hmn.out] at mb
            obtain ⟨m2, hmm2⟩ : ∃ m2, mate ms m = m2 := ⟨_, rfl⟩
            rw [hmm2] at c2 mb
            have hM2 := Lib.hid hmm2
            obtain ⟨mc1, mc2⟩ := mb
            have lm : m < 16 := by omega
            clear hmm2 hmn
            by_cases g4 : m2 = k
            · have b4 : (m2 != (k : Int)) = false := by simpa using g4
              have hok := Lib.hid (show OkAt n ms k by unfold OkAt; rw [if_neg g1, hM.out, hM2.out]; exact ⟨by omega, g3, g4⟩)
              have hJ2 : Hid (∀ j : Nat, j < k + 1 → OkAt n ms j) := Lib.hid (fun j hj => by
                by_cases e : j < k
                · exact hJ.out j e
                · have e2 : j = k := by omega
                  subst e2; exact hok.out)
              clear g3 g4
              go_wp2
              go_round
              case rel => exact ⟨k + 1, by omega, by go_num, hJ2⟩
              case measure => simp [intOf]; omega
            · have b4 : (m2 != (k : Int)) = true := by simpa using g4
              have hn := Lib.hid (not_ok hlt (show ¬ OkAt n ms k by unfold OkAt; rw [if_neg g1, hM.out, hM2.out]; exact fun h => g4 h.2.2))
              clear g3 g4
              go_wp2
              go_ret
              exact IsPost.no hn.out hBa
    · have hk16 : k = 16 := by omega
      subst hk16
      go_wp2
      go_loopw [6] (fun v wr => ∃ i : Nat, i ≤ 2 * n ∧ v = .int .i64 i ∧ Own wr w.heap.size (dcells n ms) 53 ∧ Below w.heap.size w wr ∧ Hid (∀ a : Nat, a < i → ∀ b : Nat, b < 2 * n → ¬ Cross n ms a b)) (fun v _ => (2 * n - intOf v).toNat)
      case atStart => exact ⟨0, by omega, rfl, hOa, hBa, Lib.hid (fun a ha => by omega)⟩
      case round =>
        clear hOa hBa
        obtain ⟨i, hib, rfl, hO, hB, hX⟩ := hrel
        by_cases hlt2 : (i : Int) < 2 * n
        · go_wp2_with (first
            | (refine wpList_load_row rfl 53 _ rfl _ rfl 53 _ (0, 0) _ (hO) Try.underlying53 rfl (row26 (d17 _ _ (hl.out))) ?_)
            | (go_at_call 103; ((with_reducible refine (endsS_any n ms hl.out hbb.out i (by omega) _ h1 h8).mono ?_); rintro e w2 ⟨rfl, hB2⟩)))
          have hO2 := hO.below hB2 hO.lt
          have hB2' : Below w.heap.size w w2 := hB.trans (hB2.mono hB.size)
          clear hO hB hB2
          go_loopw [9] (fun v wr => ∃ k : Nat, k ≤ 2 * n ∧ v = .int .i64 k ∧ Own wr w.heap.size (dcells n ms) 53 ∧ Below w.heap.size w wr ∧ Hid (∀ b : Nat, b < k → ¬ Cross n ms i b)) (fun v _ => (2 * n - intOf v).toNat)
          case atStart => exact ⟨0, by omega, rfl, hO2, hB2', Lib.hid (fun a ha => by omega)⟩
          case round =>
            clear hO2 hB2'
            obtain ⟨k, hk, rfl, hO, hB, hC⟩ := hrel
            by_cases hlt3 : (k : Int) < 2 * n
            · by_cases q1 : lo n ms i < lo n ms k
              · by_cases q2 : lo n ms k < hi n ms i
                · by_cases q3 : hi n ms i < hi n ms k
                  · have hn := Lib.hid (show ¬ IsS n ms from fun hs => hs.2.2 i k hlt2 hlt3 ⟨q1, q2, q3⟩)
                    go_wp2_with (first
                      | (refine wpList_load_row rfl 53 _ rfl _ rfl 53 _ (0, 0) _ (hO) Try.underlying53 rfl (row26 (d17 _ _ (hl.out))) ?_)
                      | (go_at_call 103; ((with_reducible refine (endsS_any n ms hl.out hbb.out k (by omega) _ h1 h8).mono ?_); rintro e w3 ⟨rfl, hB3⟩)))
                    go_ret
                    exact IsPost.no hn.out (hB.trans (hB3.mono hB.size))
                  · have hx := Lib.hid (show ¬ Cross n ms i k from fun h => q3 h.2.2)
                    have hC2 : Hid (∀ b : Nat, b < k + 1 → ¬ Cross n ms i b) := Lib.hid (fun b hb => by
                      by_cases e : b < k
                      · exact hC.out b e
                      · have e2 : b = k := by omega
                        subst e2; exact hx.out)
                    clear hx
                    go_wp2_with (first
                      | (refine wpList_load_row rfl 53 _ rfl _ rfl 53 _ (0, 0) _ (hO) Try.underlying53 rfl (row26 (d17 _ _ (hl.out))) ?_)
                      | (go_at_call 103; ((with_reducible refine (endsS_any n ms hl.out hbb.out k (by omega) _ h1 h8).mono ?_); rintro e w3 ⟨rfl, hB3⟩)))
                    have hO2 := hO.below hB3 hO.lt
                    have hB2 : Below w.heap.size w w3 := hB.trans (hB3.mono hB.size)
                    go_roundw
                    case rel => exact ⟨k + 1, by omega, by go_num, hO2, hB2, hC2⟩
                    case measure => simp [intOf]; omega
                · have hx := Lib.hid (show ¬ Cross n ms i k from fun h => q2 h.2.1)
                  have hC2 : Hid (∀ b : Nat, b < k + 1 → ¬ Cross n ms i b) := Lib.hid (fun b hb => by
                    by_cases e : b < k
                    · exact hC.out b e
                    · have e2 : b = k := by omega
                      subst e2; exact hx.out)
                  clear hx
                  go_wp2_with (first
                    | (refine wpList_load_row rfl 53 _ rfl _ rfl 53 _ (0, 0) _ (hO) Try.underlying53 rfl (row26 (d17 _ _ (hl.out))) ?_)
                    | (go_at_call 103; ((with_reducible refine (endsS_any n ms hl.out hbb.out k (by omega) _ h1 h8).mono ?_); rintro e w3 ⟨rfl, hB3⟩)))
                  have hO2 := hO.below hB3 hO.lt
                  have hB2 : Below w.heap.size w w3 := hB.trans (hB3.mono hB.size)
                  go_roundw
                  case rel => exact ⟨k + 1, by omega, by go_num, hO2, hB2, hC2⟩
                  case measure => simp [intOf]; omega
              · have hx := Lib.hid (show ¬ Cross n ms i k from fun h => q1 h.1)
                have hC2 : Hid (∀ b : Nat, b < k + 1 → ¬ Cross n ms i b) := Lib.hid (fun b hb => by
                  by_cases e : b < k
                  · exact hC.out b e
                  · have e2 : b = k := by omega
                    subst e2; exact hx.out)
                clear hx
                go_wp2_with (first
                  | (refine wpList_load_row rfl 53 _ rfl _ rfl 53 _ (0, 0) _ (hO) Try.underlying53 rfl (row26 (d17 _ _ (hl.out))) ?_)
                  | (go_at_call 103; ((with_reducible refine (endsS_any n ms hl.out hbb.out k (by omega) _ h1 h8).mono ?_); rintro e w3 ⟨rfl, hB3⟩)))
                have hO2 := hO.below hB3 hO.lt
                have hB2 : Below w.heap.size w w3 := hB.trans (hB3.mono hB.size)
                go_roundw
                case rel => exact ⟨k + 1, by omega, by go_num, hO2, hB2, hC2⟩
                case measure => simp [intOf]; omega
            · have hX2 : Hid (∀ a : Nat, a < i + 1 → ∀ b : Nat, b < 2 * n → ¬ Cross n ms a b) := Lib.hid (fun a ha b hb => by
                by_cases e : a < i
                · exact hX.out a e b hb
                · have e2 : a = i := by omega
                  subst e2; exact hC.out b (by omega))
              go_wp2
              go_roundw
              case rel => exact ⟨i + 1, by omega, by go_num, hO, hB, hX2⟩
              case measure => simp [intOf]; omega
        · have hy := Lib.hid (show IsS n ms from ⟨⟨h1, h8⟩, hJ.out, fun a b ha hb => hX.out a (by omega) b hb⟩)
          go_wp2
          go_ret
          exact IsPost.yes hy.out hB
theorem l01Is_any (n : Int) (ms : List Int) (hms : ms.length = 16) (hb : Bytes ms) (w : World) :
    Calls Try.prog 66 #[.agg (dcells n ms)] w (IsPost n ms w) := by
  by_cases h : 1 ≤ n ∧ n ≤ 8
  · exact l01Is_ok n ms hms hb w h.1 h.2
  · exact l01Is_size n ms hms w (by omega)
end Go.Proofs.Ytbibmncepjmgcaa
namespace Go.Proofs.Ytbibmncepjmgcaa

/-- The place at the other end of a place's line. -/
def qq (n : Int) (ms : List Int) (p : Int) : Int := pl n (mate ms (pl n p))
theorem pl_pl (n i : Int) (_ : 0 ≤ i) (h2 : i < 2 * n) : pl n (pl n i) = i := by
  unfold pl
  by_cases h : i < n
  · rw [if_pos h, if_pos h]
  · rw [if_neg h, if_neg (by omega)]; omega
theorem pl_lt (n i : Int) (h0 : 0 ≤ i) (h2 : i < 2 * n) : 0 ≤ pl n i ∧ pl n i < 2 * n := by
  unfold pl; split <;> omega
/-- What the test of diagrams says of places. -/
structure Net (n : Int) (ms : List Int) : Prop where
  bd : 1 ≤ n ∧ n ≤ 8
  lt : ∀ p : Int, 0 ≤ p → p < 2 * n → 0 ≤ qq n ms p ∧ qq n ms p < 2 * n ∧ qq n ms p ≠ p
  inv : ∀ p : Int, 0 ≤ p → p < 2 * n → qq n ms (qq n ms p) = p
  mt : ∀ p : Int, 0 ≤ p → p < 2 * n → mate ms (pl n p) = pl n (qq n ms p)
  out : ∀ i : Nat, 2 * n ≤ i → i < 16 → mate ms i = 0
  nest : ∀ p r : Int, 0 ≤ p → p < r → r < qq n ms p → qq n ms p < 2 * n → p < qq n ms r ∧ qq n ms r < qq n ms p
theorem mate_bd {ms : List Int} (hb : Bytes ms) (i : Int) : 0 ≤ mate ms i ∧ mate ms i ≤ 255 := hb.get _
theorem Net.of {n : Int} {ms : List Int} (hb : Bytes ms) (h : IsS n ms) : Net n ms := by
  obtain ⟨hbd, hok, hcr⟩ := h
  have ok : ∀ i : Int, 0 ≤ i → i < 2 * n → 0 ≤ mate ms i ∧ mate ms i < 2 * n ∧ mate ms i ≠ i ∧ mate ms (mate ms i) = i := by
    intro i h0 h2
    have h := hok i.toNat (by omega)
    rw [show ((i.toNat : Nat) : Int) = i by omega] at h
    unfold OkAt at h
    rw [if_neg (by omega)] at h
    exact ⟨(mate_bd hb i).1, h⟩
  have hlt : ∀ p : Int, 0 ≤ p → p < 2 * n → 0 ≤ qq n ms p ∧ qq n ms p < 2 * n ∧ qq n ms p ≠ p := by
    intro p h0 h2
    have b := pl_lt n p h0 h2
    obtain ⟨a1, a2, a3, a4⟩ := ok _ b.1 b.2
    have c := pl_lt n _ a1 a2
    refine ⟨c.1, c.2, fun e => a3 ?_⟩
    have := congrArg (pl n) e
    unfold qq at this
    rwa [pl_pl n _ a1 a2] at this
  have hmt : ∀ p : Int, 0 ≤ p → p < 2 * n → mate ms (pl n p) = pl n (qq n ms p) := by
    intro p h0 h2
    have b := pl_lt n p h0 h2
    obtain ⟨a1, a2, a3, a4⟩ := ok _ b.1 b.2
    unfold qq
    rw [pl_pl n _ a1 a2]
  have hinv : ∀ p : Int, 0 ≤ p → p < 2 * n → qq n ms (qq n ms p) = p := by
    intro p h0 h2
    have b := pl_lt n p h0 h2
    obtain ⟨a1, a2, a3, a4⟩ := ok _ b.1 b.2
    unfold qq
    rw [pl_pl n _ a1 a2, a4, pl_pl n p h0 h2]
  have cross : ∀ p r : Int, 0 ≤ p → p < 2 * n → 0 ≤ r → r < 2 * n → p < r → r < qq n ms p → qq n ms p < qq n ms r → p < qq n ms p → False := by
    intro p r p0 p2 r0 r2 h1 h2 h3 h4
    have bp := pl_lt n p p0 p2
    have br := pl_lt n r r0 r2
    have := hcr (pl n p).toNat (pl n r).toNat (by omega) (by omega)
    apply this
    rw [show (((pl n p).toNat : Nat) : Int) = pl n p by omega, show (((pl n r).toNat : Nat) : Int) = pl n r by omega]
    unfold Cross lo hi
    rw [pl_pl n p p0 p2, pl_pl n r r0 r2]
    have e1 : pl n (mate ms (pl n p)) = qq n ms p := rfl
    have e2 : pl n (mate ms (pl n r)) = qq n ms r := rfl
    rw [e1, e2]
    omega
  refine ⟨hbd, hlt, hinv, hmt, ?_, ?_⟩
  · intro i h1 h2
    have h := hok i h2
    unfold OkAt at h
    rwa [if_pos h1] at h
  · intro p r h0 h1 h2 h3
    have q1 := hlt p h0 (by omega)
    have q2 := hlt r (by omega) (by omega)
    have i1 := hinv p h0 (by omega)
    have i2 := hinv r (by omega) (by omega)
    constructor
    · rcases Int.lt_trichotomy p (qq n ms r) with h | h | h
      · exact h
      · rw [← h] at i2; omega
      · exact (cross (qq n ms r) p (by omega) (by omega) h0 (by omega) h (by omega) (by omega) (by omega)).elim
    · rcases Int.lt_trichotomy (qq n ms r) (qq n ms p) with h | h | h
      · exact h
      · rw [h, i1] at i2; omega
      · exact (cross p r h0 (by omega) (by omega) (by omega) h1 h2 h (by omega)).elim

theorem letL_get (n : Int) (ms : List Int) (N k : Nat) (hk : k ≤ 2 * N) (i : Nat) (hi : i < k) : (letL n ms N k)[i]? = some (chAt n ms i) := by
  induction k with
  | zero => omega
  | succ k ih =>
    rw [letL, List.getElem?_set]
    by_cases e : k = i
    · subst e
      rw [if_pos rfl, if_pos (by rw [letL_len]; omega)]
    · rw [if_neg e]
      exact ih (by omega) (by omega)
theorem text_len (n : Int) (ms : List Int) (h : 0 ≤ n) : ((textS n ms).data.toList.length : Int) = 2 * n := by
  unfold textS
  rw [strOfNums_data, List.length_map, letL_len]
  omega
theorem text_get (n : Int) (ms : List Int) (p : Nat) (hp : (p : Int) < 2 * n) : (textS n ms).data.toList[p]? = some (if (p : Int) < qq n ms p then 40 else 41) := by
  unfold textS
  rw [strOfNums_data, List.getElem?_map, letL_get n ms n.toNat (2 * n.toNat) (Nat.le_refl _) p (by omega)]
  unfold chAt qq mate
  split <;> rfl

/-- The places that are open behind k of them. -/
def opens (n : Int) (ms : List Int) (k : Nat) : List Int := ((List.range k).filter (fun p : Nat => decide ((k : Int) ≤ qq n ms p))).map (fun p : Nat => (p : Int))
theorem opens_up {n : Int} {ms : List Int} (h : Net n ms) (k : Nat) (hk : (k : Int) < 2 * n) (hq : (k : Int) < qq n ms k) : opens n ms (k + 1) = opens n ms k ++ [(k : Int)] := by
  unfold opens
  rw [List.range_succ, List.filter_append, List.map_append]
  have e1 : List.filter (fun p : Nat => decide (((k + 1 : Nat) : Int) ≤ qq n ms p)) [k] = [k] := by
    rw [List.filter_cons_of_pos (by simp; omega), List.filter_nil]
  rw [e1]
  congr 2
  apply List.filter_congr
  intro p hp
  rw [List.mem_range] at hp
  have := h.inv p (by omega) (by omega)
  rw [decide_eq_decide]
  constructor
  · intro a; omega
  · intro a
    rcases Int.lt_or_eq_of_le a with b | b
    · omega
    · rw [← b] at this; omega
theorem opens_down {n : Int} {ms : List Int} (h : Net n ms) (k : Nat) (hk : (k : Int) < 2 * n) (hq : qq n ms k < k) : opens n ms k = opens n ms (k + 1) ++ [qq n ms k] := by
  have q0 := h.lt k (by omega) hk
  have qi := h.inv k (by omega) hk
  obtain ⟨y, hy⟩ : ∃ y : Nat, qq n ms k = y := ⟨(qq n ms k).toNat, by omega⟩
  rw [hy] at q0 qi hq ⊢
  obtain ⟨d, hd⟩ : ∃ d, k = y + 1 + d := ⟨k - (y + 1), by omega⟩
  have hr : List.range k = List.range y ++ [y] ++ (List.range d).map (y + 1 + ·) := by
    rw [hd, List.range_add, List.range_succ]
  have n1 : ∀ (P : Nat → Bool), (∀ r, y < r → r < k → P r = false) → List.filter P ((List.range d).map (y + 1 + ·)) = [] := by
    intro P hP
    rw [List.filter_eq_nil_iff]
    intro r hr'
    rw [List.mem_map] at hr'
    obtain ⟨a, ha, rfl⟩ := hr'
    rw [List.mem_range] at ha
    rw [hP _ (by omega) (by omega)]
    simp
  have nest : ∀ r : Nat, y < r → r < k → qq n ms r < k := by
    intro r h1 h2
    have := h.nest y r (by omega) (by omega) (by rw [qi]; omega) (by rw [qi]; omega)
    rw [qi] at this
    exact this.2
  unfold opens
  rw [List.range_succ, List.filter_append, List.map_append]
  have e1 : List.filter (fun p : Nat => decide (((k + 1 : Nat) : Int) ≤ qq n ms p)) [k] = [] := by
    rw [List.filter_cons_of_neg (by simp; omega), List.filter_nil]
  rw [e1, hr]
  simp only [List.filter_append]
  rw [n1 _ (fun r h1 h2 => by have := nest r h1 h2; simp; omega), n1 _ (fun r h1 h2 => by have := nest r h1 h2; simp; omega)]
  have e2 : List.filter (fun p : Nat => decide ((k : Int) ≤ qq n ms p)) [y] = [y] := by
    rw [List.filter_cons_of_pos (by simp; omega), List.filter_nil]
  have e3 : List.filter (fun p : Nat => decide (((k + 1 : Nat) : Int) ≤ qq n ms p)) [y] = [] := by
    rw [List.filter_cons_of_neg (by simp; omega), List.filter_nil]
  rw [e2, e3]
  have e4 : List.filter (fun p : Nat => decide ((k : Int) ≤ qq n ms p)) (List.range y) = List.filter (fun p : Nat => decide (((k + 1 : Nat) : Int) ≤ qq n ms p)) (List.range y) := by
    apply List.filter_congr
    intro p hp
    rw [List.mem_range] at hp
    have := h.inv p (by omega) (by omega)
    rw [decide_eq_decide]
    constructor
    · intro a
      rcases Int.lt_or_eq_of_le a with b | b
      · omega
      · rw [← b, hy] at this; omega
    · intro a; omega
  rw [e4]
  simp

theorem joinL_get (M : List Int) (hM : M.length = 16) (a b : Int) (ha : 0 ≤ a ∧ a < 16) (hb : 0 ≤ b ∧ b < 16) (i : Nat) : (joinL M a b).getD i 0 = if (i : Int) = b then a else if (i : Int) = a then b else M.getD i 0 := by
  have s1 : ∀ (l : List Int) (j : Nat) (v : Int), l.length = 16 → j < 16 → (l.set j v).getD i 0 = if i = j then v else l.getD i 0 := by
    intro l j v hl hj
    rw [List.getD_eq_getElem?_getD, List.getD_eq_getElem?_getD, List.getElem?_set]
    by_cases e : j = i
    · subst e; simp [hl, hj]
    · rw [if_neg e, if_neg (fun h => e h.symm)]
  unfold joinL
  rw [s1 _ _ _ (by rw [List.length_set]; exact hM) (by omega), s1 _ _ _ hM (by omega)]
  by_cases e1 : i = b.toNat
  · rw [if_pos e1, if_pos (by omega)]
  · rw [if_neg e1, if_neg (show ¬ (i : Int) = b by omega)]
    by_cases e2 : i = a.toNat
    · rw [if_pos e2, if_pos (show (i : Int) = a by omega)]
    · rw [if_neg e2, if_neg (show ¬ (i : Int) = a by omega)]
/-- Which mates are known behind k places. -/
def Known (n : Int) (ms : List Int) (k : Nat) (M : List Int) : Prop := M.length = 16 ∧ ∀ i : Nat, i < 16 → M.getD i 0 = if (i : Int) < 2 * n ∧ pl n i < k ∧ qq n ms (pl n i) < k then mate ms i else 0
theorem text_pst {n : Int} {ms : List Int} (h : Net n ms) (k : Nat) (hk : (k : Int) ≤ 2 * n) : ∃ M, pst n (textS n ms).data.toList k = some (M, opens n ms k) ∧ Known n ms k M := by
  have hn := h.bd
  induction k with
  | zero =>
    refine ⟨zeros, rfl, rfl, fun i hi => ?_⟩
    rw [if_neg]
    · unfold zeros; rw [List.getD_eq_getElem?_getD, List.getElem?_replicate, if_pos hi]; rfl
    · intro a
      have := pl_lt n i (by omega) a.1
      omega
  | succ k ih =>
    obtain ⟨M, hM, hlen, hkn⟩ := ih (by omega)
    have hk' : (k : Int) < 2 * n := by omega
    have q0 := h.lt k (by omega) hk'
    have qi := h.inv k (by omega) hk'
    have hc := text_get n ms k hk'
    by_cases hq : (k : Int) < qq n ms k
    · rw [if_pos hq] at hc
      refine ⟨M, by rw [pst_open _ _ _ _ _ hM hc, opens_up h k hk' hq], hlen, fun i hi => ?_⟩
      rw [hkn i hi]
      by_cases hin : (i : Int) < 2 * n
      · have b := pl_lt n i (by omega) hin
        have vi := h.inv (pl n i) b.1 b.2
        have e : ((i : Int) < 2 * n ∧ pl n i < k ∧ qq n ms (pl n i) < k) ↔ ((i : Int) < 2 * n ∧ pl n i < (k + 1 : Nat) ∧ qq n ms (pl n i) < (k + 1 : Nat)) := by
          constructor
          · intro a; omega
          · intro a
            have x1 : pl n i ≠ k := fun e => by rw [e] at a; omega
            have x2 : qq n ms (pl n i) ≠ k := fun e => by rw [e] at vi; omega
            omega
        simp only [e]
      · rw [if_neg (by omega), if_neg (by omega)]
    · have hq' : qq n ms k < k := by omega
      rw [if_neg hq] at hc
      rw [opens_down h k hk' hq'] at hM
      have by' := pl_bd n (qq n ms k) hn.2 q0.1 q0.2.1
      have bk := pl_bd n k hn.2 (by omega) hk'
      refine ⟨_, pst_close _ _ _ _ _ _ hM hc, by rw [joinL_len]; exact hlen, fun i hi => ?_⟩
      rw [joinL_get M hlen _ _ ⟨by'.1, by'.2.2⟩ ⟨bk.1, bk.2.2⟩ i]
      by_cases e1 : (i : Int) = pl n k
      · rw [if_pos e1]
        have p1 : pl n i = k := by rw [e1, pl_pl n k (by omega) hk']
        rw [if_pos ⟨by rw [e1]; omega, by rw [p1]; omega, by rw [p1]; omega⟩, e1, h.mt k (by omega) hk']
      · rw [if_neg e1]
        by_cases e2 : (i : Int) = pl n (qq n ms k)
        · rw [if_pos e2]
          have p1 : pl n i = qq n ms k := by rw [e2, pl_pl n _ q0.1 q0.2.1]
          rw [if_pos ⟨by rw [e2]; omega, by rw [p1]; omega, by rw [p1, qi]; omega⟩, e2, h.mt _ q0.1 q0.2.1, qi]
        · rw [if_neg e2, hkn i hi]
          by_cases hin : (i : Int) < 2 * n
          · have b := pl_lt n i (by omega) hin
            have vi := h.inv (pl n i) b.1 b.2
            have pp := pl_pl n i (by omega) hin
            have e : ((i : Int) < 2 * n ∧ pl n i < k ∧ qq n ms (pl n i) < k) ↔ ((i : Int) < 2 * n ∧ pl n i < (k + 1 : Nat) ∧ qq n ms (pl n i) < (k + 1 : Nat)) := by
              constructor
              · intro a; omega
              · intro a
                have x1 : pl n i ≠ k := fun e => e1 (by rw [← e, pp])
                have x2 : qq n ms (pl n i) ≠ k := fun e => e2 (by rw [← e, vi, pp])
                omega
            simp only [e]
          · rw [if_neg (by omega), if_neg (by omega)]
theorem parse_text {n : Int} {ms : List Int} (hms : ms.length = 16) (h : Net n ms) : parse (textS n ms).data.toList = some (n, ms) := by
  have hn := h.bd
  have hl := text_len n ms (by omega)
  obtain ⟨M, hM, hlen, hkn⟩ := text_pst h (textS n ms).data.toList.length (by omega)
  have ho : opens n ms (textS n ms).data.toList.length = [] := by
    unfold opens
    rw [List.map_eq_nil_iff, List.filter_eq_nil_iff]
    intro p hp
    rw [List.mem_range] at hp
    have := h.lt p (by omega) (by omega)
    intro hd
    rw [decide_eq_true_iff] at hd
    omega
  have hE : M = ms := by
    apply List.ext_getElem (by omega)
    intro i h1 h2
    have e := hkn i (by omega)
    have g1 : M.getD i 0 = M[i] := by rw [List.getD_eq_getElem?_getD, List.getElem?_eq_getElem h1]; rfl
    have g2 : mate ms i = ms[i] := by rw [mate_nat, List.getD_eq_getElem?_getD, List.getElem?_eq_getElem h2]; rfl
    rw [g1] at e
    rw [e]
    by_cases hin : (i : Int) < 2 * n
    · have b := pl_lt n i (by omega) hin
      have q := h.lt _ b.1 b.2
      rw [if_pos ⟨hin, by omega, by omega⟩, g2]
    · rw [if_neg (by omega), ← g2, h.out i (by omega) (by omega)]
  rw [ho, hE] at hM
  exact parse_some _ n hl hn.1 hn.2 ms hM
end Go.Proofs.Ytbibmncepjmgcaa
namespace Go.Proofs.Ytbibmncepjmgcaa
open Go.RowKit
theorem mates_of (n : Int) (ms : List Int) (h : ms.length = 16) : (dcells n ms).extract 1 17 = mcells ms := by
  obtain ⟨a0, a1, a2, a3, a4, a5, a6, a7, a8, a9, b0, b1, b2, b3, b4, b5, rfl⟩ := list16 ms h
  kernel_rfl
theorem part5 (ms : List Int) (i : Nat) (hi : i < ms.length) (w : World) : (part 5 (mcells ms) i).run Try.prog w = .ok (.int .u8 (ms.getD i 0)) w := by
  have ha : (isAgg 5).run Try.prog w = .ok false w := by kernel_rfl
  have hg := mcells_get ms i hi
  unfold part
  simp [Sem.run_bind, ha, hg]
theorem eqLoop (d : Nat) (ms ms' : List Int) (h : ms.length = 16) (h' : ms'.length = 16) (w : World) (l : List Nat) (hl : ∀ i ∈ l, i < 16) :
    (forIn l ((none : Option Bool), ()) fun i __s => (do
            let __do_lift ← part 5 (mcells ms) i
            let __do_lift_1 ← part 5 (mcells ms') i
            let __do_lift ← Op.equalIn (d + 1) 5 __do_lift __do_lift_1
            if (!__do_lift) = true then pure (ForInStep.done (some false, ())) else pure (ForInStep.yield (none, ())) : Sem (ForInStep (Option Bool × Unit)))).run Try.prog w
      = .ok (if l.all (fun i => ms.getD i 0 == ms'.getD i 0) then (none, ()) else (some false, ())) w := by
  induction l with
  | nil => simp
  | cons i l ih =>
    have hi := hl i (by simp)
    have ih' := ih (fun j hj => hl j (by simp [hj]))
    rw [List.forIn_cons]
    simp only [Sem.run_bind, part5 ms i (by omega), part5 ms' i (by omega), Result.andThen_ok, run_equalIn_int w d 5 .u8 .u8 _ _ Try.underlying5]
    by_cases hq : ms.getD i 0 = ms'.getD i 0
    · have hb : (ms.getD i 0 == ms'.getD i 0) = true := by simpa using hq
      rw [hb]
      simp only [Bool.not_true, Bool.false_eq_true, if_false, Sem.run_pure, Result.andThen_ok, ih', List.all_cons, hb, Bool.true_and]
    · have hb : (ms.getD i 0 == ms'.getD i 0) = false := by simpa using hq
      rw [hb]
      simp only [Bool.not_false, if_true, Sem.run_pure, Result.andThen_ok, List.all_cons, hb, Bool.false_and]
      rfl
theorem all16 (ms ms' : List Int) (h : ms.length = 16) (h' : ms'.length = 16) : (List.range' 0 16).all (fun i => ms.getD i 0 == ms'.getD i 0) = decide (ms = ms') := by
  rw [Bool.eq_iff_iff, List.all_eq_true, decide_eq_true_iff]
  constructor
  · intro hq
    apply List.ext_getElem (by omega)
    intro i h1 h2
    have := hq i (by simp; omega)
    simpa [h1, h2] using this
  · rintro rfl i _
    simp
theorem eqArr (d : Nat) (ms ms' : List Int) (h : ms.length = 16) (h' : ms'.length = 16) (w : World) :
    (Op.equalIn (d + 2) 51 (.agg (mcells ms)) (.agg (mcells ms'))).run Try.prog w = .ok (decide (ms = ms')) w := by
  have hs : (sizeOf 5).run Try.prog w = .ok 1 w := by kernel_rfl
  have hu : Try.prog.underlying 51 = some (.array 16 5) := by kernel_rfl
  have hL := eqLoop d ms ms' h h' w (List.range' 0 16) (fun i hi => by simp at hi; omega)
  rw [all16 ms ms' h h'] at hL
  rw [Op.equalIn]
  simp only [Sem.run_bind, run_underlying hu, Result.andThen_ok, hs, Nat.mul_one]
  rw [Std.Legacy.Range.forIn_eq_forIn_range']
  simp only [Std.Legacy.Range.size, Nat.sub_zero, Nat.reduceAdd, Nat.reduceSub, Nat.div_one]
  rw [hL]
  by_cases hq : ms = ms'
  · simp [hq]
  · simp [hq]
theorem eqMates (n n' : Int) (ms ms' : List Int) (h : ms.length = 16) (h' : ms'.length = 16) (w : World) :
    (Op.equalIn 9999 51 (.agg ((dcells n ms).extract 1 17)) (.agg ((dcells n' ms').extract 1 17))).run Try.prog w = .ok (decide (ms = ms')) w := by
  rw [mates_of n ms h, mates_of n' ms' h']
  exact eqArr 9997 ms ms' h h' w
end Go.Proofs.Ytbibmncepjmgcaa
namespace Go.Proofs.Ytbibmncepjmgcaa
open Go.RowKit
set_option maxRecDepth 100000 in
set_option maxHeartbeats 400000 in
theorem isI_some (n : Int) (ms : List Int) (hms : ms.length = 16) (hb : Bytes ms) (w : World) (h1 : 1 ≤ n) (h8 : n ≤ 8) (n' : Int) (ms' : List Int) (hp : parse (textS n ms).data.toList = some (n', ms')) :
    Calls Try.prog 75 #[.agg (dcells n ms)] w fun e w' => e = .returned (.bool (decide (n' = n ∧ ms' = ms))) ∧ Below w.heap.size w w' := by
  have hl := Lib.hid hms
  have hl' := Lib.hid (parse_len _ _ _ hp)
  have hbb := Lib.hid hb
  have c0 := dcells_zero n ms
  have hm : (textS n ms).size ≤ maxLen := by
    unfold textS; rw [strOfNums_size, letL_len]; unfold maxLen; omega
  have hc := Lib.hid (fun w => (dot_any (textS n ms) w hm).mono fun e w' (hd : DotPost _ w e w') => show e = .returned (.tuple #[.agg (dcells n' ms'), .bool true]) ∧ Below w.heap.size w w' from ⟨by rw [hd.1, hp]; rfl, hd.2⟩)
  have c0' := dcells_zero n' ms'
  have hE := eqMates n' n ms' ms hl'.out hl.out
  clear hms hb hp hm
  go_enter Try.func75, Try.ntmps75
  go_wp2_with (first
    | (go_at_call 74; ((with_reducible refine (isSize_t _ _ (by omega) (by omega)).mono ?_); rintro e w0 ⟨rfl, rfl⟩))
    | (go_at_call 108; ((with_reducible refine (textI_any n ms hl.out hbb.out _ h1 h8).mono ?_); rintro e w1 ⟨rfl, hB1⟩))
    | (go_at_call 107; ((with_reducible refine (hc.out _).mono ?_); rintro e w2 ⟨rfl, hB2⟩))
    | (refine wpList_load_row rfl 53 _ rfl _ rfl 53 _ (0, 0) _ (Own.new _ _ _) Try.underlying53 rfl (row26 (d17 _ _ (hl.out))) ?_)
    | (refine wpList_store_own rfl 53 _ _ rfl _ _ rfl rfl 53 _ (Own.new w2 _ _) (row26 (d17 _ _ (hl'.out))) (z_eq (d17 _ _ hl'.out)) (dcells_one _ _) ?_; intro w3 hO3 hN3)
    | (refine wpList_load_row_if rfl 53 (.tmp 3) rfl _ rfl 53 _ _ hO3 Try.underlying53 rfl (row26 (d17 _ _ hl'.out)) ?_)
    | (refine wpList_load_row_if rfl 53 (.tmp 1) rfl _ rfl 53 _ _ ((((Own.new _ _ _).below hB1 (by simp)).below hB2 (Nat.lt_of_lt_of_le (by simp) hB1.size) |>.alloc _).only hN3 (Nat.ne_of_lt (Nat.lt_of_lt_of_le (Nat.lt_of_lt_of_le (by simp) hB1.size) hB2.size))) Try.underlying53 rfl (row26 (d17 _ _ hl.out)) ?_))
  all_goals
    go_ret
    have b0 : Below w.heap.size w (w.alloc (.cells (dcells n ms) 53)) := (Below.refl _ _).alloc (Nat.le_refl _) _
    have b1 : Below w.heap.size w w1 := b0.trans (hB1.mono b0.size)
    have b2 : Below w.heap.size w w2 := b1.trans (hB2.mono b1.size)
    have b3 : Below w.heap.size w w3 := (b2.alloc b2.size _).trans (hN3.below.mono b2.size)
    refine ⟨?_, b3⟩
    clear hB1 hB2 hN3 hO3 hc hE b0 b1 b2 b3
    simp_all
set_option maxRecDepth 100000 in
set_option maxHeartbeats 400000 in
theorem isI_none (n : Int) (ms : List Int) (hms : ms.length = 16) (hb : Bytes ms) (w : World) (h1 : 1 ≤ n) (h8 : n ≤ 8) (hp : parse (textS n ms).data.toList = none) :
    Calls Try.prog 75 #[.agg (dcells n ms)] w fun e w' => e = .returned (.bool false) ∧ Below w.heap.size w w' := by
  have hl := Lib.hid hms
  have hbb := Lib.hid hb
  have c0 := dcells_zero n ms
  have hm : (textS n ms).size ≤ maxLen := by
    unfold textS; rw [strOfNums_size, letL_len]; unfold maxLen; omega
  have hc := Lib.hid (fun w => (dot_any (textS n ms) w hm).mono fun e w' (hd : DotPost _ w e w') => show e = .returned (.tuple #[.agg zcells, .bool false]) ∧ Below w.heap.size w w' from ⟨by rw [hd.1, hp]; rfl, hd.2⟩)
  clear hms hb hp hm
  go_enter Try.func75, Try.ntmps75
  go_wp2_with (first
    | (go_at_call 74; ((with_reducible refine (isSize_t _ _ (by omega) (by omega)).mono ?_); rintro e w0 ⟨rfl, rfl⟩))
    | (go_at_call 108; ((with_reducible refine (textI_any n ms hl.out hbb.out _ h1 h8).mono ?_); rintro e w1 ⟨rfl, hB1⟩))
    | (go_at_call 107; ((with_reducible refine (hc.out _).mono ?_); rintro e w2 ⟨rfl, hB2⟩))
    | (refine wpList_load_row rfl 53 _ rfl _ rfl 53 _ (0, 0) _ (Own.new _ _ _) Try.underlying53 rfl (row26 (d17 _ _ (hl.out))) ?_)
    | (refine wpList_store_own rfl 53 _ _ rfl _ _ rfl rfl 53 _ (Own.new w2 _ _) (row26 (d17 _ _ (zlen))) (rfl) (dcells_one _ _) ?_; intro w3 hO3 hN3))
  go_ret
  have b0 : Below w.heap.size w (w.alloc (.cells (dcells n ms) 53)) := (Below.refl _ _).alloc (Nat.le_refl _) _
  have b1 : Below w.heap.size w w1 := b0.trans (hB1.mono b0.size)
  have b2 : Below w.heap.size w w2 := b1.trans (hB2.mono b1.size)
  exact ⟨rfl, (b2.alloc b2.size _).trans (hN3.below.mono b2.size)⟩
set_option maxRecDepth 100000 in
theorem isI_size (n : Int) (ms : List Int) (hms : ms.length = 16) (w : World) (h : n < 1 ∨ 8 < n) :
    Calls Try.prog 75 #[.agg (dcells n ms)] w fun e w' => e = .returned (.bool false) ∧ Below w.heap.size w w' := by
  have hl := Lib.hid hms
  have c0 := dcells_zero n ms
  have hh := Lib.hid h
  clear hms h
  go_enter Try.func75, Try.ntmps75
  go_wp2_with (first
    | (go_at_call 74; ((with_reducible refine (isSize_f _ _ hh.out).mono ?_); rintro e w0 ⟨rfl, rfl⟩)))
  go_ret
  exact ⟨rfl, (Below.refl _ _).alloc (Nat.le_refl _) _⟩
/-- Whether a size and mates are a diagram, as the program asks it. -/
def isD (n : Int) (ms : List Int) : Bool := decide (1 ≤ n ∧ n ≤ 8) && decide (parse (textS n ms).data.toList = some (n, ms))
theorem isI_any (n : Int) (ms : List Int) (hms : ms.length = 16) (hb : Bytes ms) (w : World) :
    Calls Try.prog 75 #[.agg (dcells n ms)] w fun e w' => e = .returned (.bool (isD n ms)) ∧ Below w.heap.size w w' := by
  by_cases h : 1 ≤ n ∧ n ≤ 8
  · cases hp : parse (textS n ms).data.toList with
    | none =>
      have e : isD n ms = false := by unfold isD; rw [hp]; simp
      rw [e]; exact isI_none n ms hms hb w h.1 h.2 hp
    | some q =>
      obtain ⟨n', ms'⟩ := q
      have e : isD n ms = decide (n' = n ∧ ms' = ms) := by unfold isD; rw [hp]; simp [h]
      rw [e]; exact isI_some n ms hms hb w h.1 h.2 n' ms' hp
  · have e : isD n ms = false := by unfold isD; simp [h]
    rw [e]; exact isI_size n ms hms w (by omega)
end Go.Proofs.Ytbibmncepjmgcaa
namespace Go.Proofs.Ytbibmncepjmgcaa
open Go.RowKit

structure Inv (n : Int) (k : Nat) (M o : List Int) : Prop where
  len : M.length = 16
  srt : o.Pairwise (· < ·)
  obd : ∀ y ∈ o, 0 ≤ y ∧ y < k
  out : ∀ i : Nat, 2 * n ≤ i → i < 16 → mate M i = 0
  cl : ∀ p : Int, 0 ≤ p → p < k → p ∉ o → 0 ≤ qq n M p ∧ qq n M p < k ∧ qq n M p ∉ o ∧ qq n M p ≠ p ∧ qq n M (qq n M p) = p ∧ mate M (pl n p) = pl n (qq n M p)
  nest : ∀ p r : Int, 0 ≤ p → p < k → p ∉ o → p < r → r < qq n M p → r ∉ o ∧ p < qq n M r ∧ qq n M r < qq n M p

theorem Inv.start (n : Int) : Inv n 0 zeros [] := by
  refine ⟨rfl, List.Pairwise.nil, by simp, ?_, by intro p h0 h1; omega, by intro p r h0 h1; omega⟩
  intro i _ h2
  rw [mate_nat]; unfold zeros
  rw [List.getD_eq_getElem?_getD, List.getElem?_replicate, if_pos h2]; rfl
theorem Inv.up {n : Int} {k : Nat} {M o : List Int} (h : Inv n k M o) : Inv n (k + 1) M (o ++ [(k : Int)]) := by
  refine ⟨h.len, ?_, ?_, h.out, ?_, ?_⟩
  · rw [List.pairwise_append]
    refine ⟨h.srt, by simp, ?_⟩
    intro a ha b hb
    have := h.obd a ha
    simp at hb; omega
  · intro y hy
    rw [List.mem_append] at hy
    rcases hy with hy | hy
    · have := h.obd y hy; omega
    · simp at hy; omega
  · intro p h0 h1 hp
    rw [List.mem_append] at hp
    have hpk : p ≠ k := fun e => hp (.inr (by simp [e]))
    obtain ⟨a1, a2, a3, a4, a5, a6⟩ := h.cl p h0 (by omega) (fun x => hp (.inl x))
    refine ⟨a1, by omega, ?_, a4, a5, a6⟩
    rw [List.mem_append]
    rintro (x | x)
    · exact a3 x
    · simp at x; omega
  · intro p r h0 h1 hp h2 h3
    rw [List.mem_append] at hp
    have hpk : p ≠ k := fun e => hp (.inr (by simp [e]))
    have hpo : p ∉ o := fun x => hp (.inl x)
    obtain ⟨a1, a2, a3, a4, a5, a6⟩ := h.cl p h0 (by omega) hpo
    obtain ⟨b1, b2, b3⟩ := h.nest p r h0 (by omega) hpo h2 h3
    refine ⟨?_, b2, b3⟩
    rw [List.mem_append]
    rintro (x | x)
    · exact b1 x
    · simp at x; omega
theorem mate_join {n : Int} (M : List Int) (hM : M.length = 16) (h8 : n ≤ 8) (a b : Int) (ha : 0 ≤ a ∧ a < 2 * n) (hb : 0 ≤ b ∧ b < 2 * n) (i : Int) (h0 : 0 ≤ i) :
    mate (joinL M (pl n a) (pl n b)) i = if i = pl n b then pl n a else if i = pl n a then pl n b else mate M i := by
  have pa := pl_bd n a h8 ha.1 ha.2
  have pb := pl_bd n b h8 hb.1 hb.2
  obtain ⟨j, rfl⟩ : ∃ j : Nat, i = j := ⟨i.toNat, by omega⟩
  rw [mate_nat, mate_nat, joinL_get M hM _ _ ⟨pa.1, pa.2.2⟩ ⟨pb.1, pb.2.2⟩]
theorem Inv.down {n : Int} {k : Nat} {M o : List Int} {y : Int} (h8 : n ≤ 8) (hk : (k : Int) < 2 * n) (h : Inv n k M (o ++ [y])) : Inv n (k + 1) (joinL M (pl n y) (pl n k)) o := by
  have yb := h.obd y (by simp)
  have hs := List.pairwise_append.1 h.srt
  have oy : ∀ a ∈ o, a < y := fun a ha => hs.2.2 a ha y (by simp)
  have yno : y ∉ o := fun x => by have := oy y x; omega
  have kno : (k : Int) ∉ o := fun x => by have := oy _ x; omega
  have mem : ∀ p, p ∉ o → p ≠ y → p ∉ o ++ [y] := by
    intro p h1 h2 h3
    rw [List.mem_append] at h3
    rcases h3 with h3 | h3
    · exact h1 h3
    · simp at h3; exact h2 h3
  have mj : ∀ i : Int, 0 ≤ i → mate (joinL M (pl n y) (pl n k)) i = if i = pl n k then pl n y else if i = pl n y then pl n k else mate M i :=
    fun i h0 => mate_join M h.len h8 y k ⟨yb.1, by omega⟩ ⟨by omega, hk⟩ i h0
  have inj : ∀ a b : Int, 0 ≤ a → a < 2 * n → 0 ≤ b → b < 2 * n → pl n a = pl n b → a = b := by
    intro a b a0 a2 b0 b2 e
    rw [← pl_pl n a a0 a2, e, pl_pl n b b0 b2]
  have qk : qq n (joinL M (pl n y) (pl n k)) k = y := by
    unfold qq
    rw [mj _ (pl_lt n k (by omega) hk).1, if_pos rfl, pl_pl n y yb.1 (by omega)]
  have qy : qq n (joinL M (pl n y) (pl n k)) y = k := by
    unfold qq
    rw [mj _ (pl_lt n y yb.1 (by omega)).1, if_neg (fun e => by have := inj y k yb.1 (by omega) (by omega) hk e; omega), if_pos rfl, pl_pl n k (by omega) hk]
  have qo : ∀ p : Int, 0 ≤ p → p < 2 * n → p ≠ k → p ≠ y → qq n (joinL M (pl n y) (pl n k)) p = qq n M p := by
    intro p h0 h2 e1 e2
    unfold qq
    rw [mj _ (pl_lt n p h0 h2).1, if_neg (fun e => e1 (inj p k h0 h2 (by omega) hk e)), if_neg (fun e => e2 (inj p y h0 h2 yb.1 (by omega) e))]
  refine ⟨by rw [joinL_len]; exact h.len, hs.1, fun a ha => ?_, ?_, ?_, ?_⟩
  · have := h.obd a (by simp [ha]); omega
  · intro i h1 h2
    have p1 := pl_lt n k (by omega) hk
    have p2 := pl_lt n y yb.1 (by omega)
    rw [mj i (by omega), if_neg (by omega), if_neg (by omega)]
    exact h.out i h1 h2
  · intro p h0 h1 hp
    by_cases e1 : p = k
    · subst e1
      rw [qk, qy]
      refine ⟨yb.1, by omega, yno, by omega, rfl, ?_⟩
      rw [mj _ (pl_lt n k (by omega) hk).1, if_pos rfl]
    · by_cases e2 : p = y
      · subst e2
        rw [qy, qk]
        refine ⟨by omega, by omega, kno, by omega, rfl, ?_⟩
        rw [mj _ (pl_lt n p yb.1 (by omega)).1, if_neg (fun e => e1 (inj p k yb.1 (by omega) (by omega) hk e)), if_pos rfl]
      · obtain ⟨a1, a2, a3, a4, a5, a6⟩ := h.cl p h0 (by omega) (mem p hp e2)
        have x1 : qq n M p ∉ o := fun x => a3 (by simp [x])
        have x2 : qq n M p ≠ y := fun x => a3 (by simp [x])
        rw [qo p h0 (by omega) e1 e2, qo _ a1 (by omega) (by omega) x2]
        refine ⟨a1, by omega, x1, a4, a5, ?_⟩
        rw [mj _ (pl_lt n p h0 (by omega)).1, if_neg (fun e => e1 (inj p k h0 (by omega) (by omega) hk e)), if_neg (fun e => e2 (inj p y h0 (by omega) yb.1 (by omega) e))]
        exact a6
  · intro p r h0 h1 hp h2 h3
    by_cases e1 : p = k
    · subst e1; rw [qk] at h3; omega
    · by_cases e2 : p = y
      · subst e2
        rw [qy] at h3 ⊢
        have rno : r ∉ o := fun x => by have := oy r x; omega
        obtain ⟨a1, a2, a3, a4, a5, a6⟩ := h.cl r (by omega) (by omega) (mem r rno (by omega))
        have x2 : qq n M r ≠ p := fun x => a3 (by simp [x])
        rw [qo r (by omega) (by omega) (by omega) (by omega)]
        refine ⟨rno, ?_, by omega⟩
        rcases Int.lt_trichotomy p (qq n M r) with q | q | q
        · exact q
        · exact (x2 q.symm).elim
        · have := h.nest (qq n M r) p a1 a2 a3 q (by rw [a5]; exact h2)
          exact (this.1 (by simp)).elim
      · obtain ⟨a1, a2, a3, a4, a5, a6⟩ := h.cl p h0 (by omega) (mem p hp e2)
        rw [qo p h0 (by omega) e1 e2] at h3 ⊢
        obtain ⟨b1, b2, b3⟩ := h.nest p r h0 (by omega) (mem p hp e2) h2 h3
        have x1 : r ∉ o := fun x => b1 (by simp [x])
        have x2 : r ≠ y := fun x => b1 (by simp [x])
        rw [qo r (by omega) (by omega) (by omega) x2]
        exact ⟨x1, b2, b3⟩
theorem pst_inv (n : Int) (l : List UInt8) (h8 : n ≤ 8) (k : Nat) (hk : (k : Int) ≤ 2 * n) (M o : List Int) (h : pst n l k = some (M, o)) : Inv n k M o := by
  induction k generalizing M o with
  | zero => simp [pst] at h; obtain ⟨rfl, rfl⟩ := h; exact Inv.start n
  | succ k ih =>
    unfold pst at h
    cases hp : pst n l k with
    | none => rw [hp] at h; simp at h
    | some q =>
      obtain ⟨M', o'⟩ := q
      have hI := ih (by omega) M' o' hp
      rw [hp] at h
      simp only at h
      split at h
      · simp at h; obtain ⟨rfl, rfl⟩ := h
        exact hI.up
      · split at h
        · rcases List.eq_nil_or_concat o' with e | ⟨ys, y, e⟩
          · subst e; simp at h
          · rw [List.concat_eq_append] at e
            subst e
            simp at h; obtain ⟨rfl, rfl⟩ := h
            exact hI.down h8 (by omega)
        · simp at h
theorem Inv.isS {n : Int} {M : List Int} (h1 : 1 ≤ n) (h8 : n ≤ 8) (h : Inv n (2 * n).toNat M []) : IsS n M := by
  have cl : ∀ p : Int, 0 ≤ p → p < 2 * n → 0 ≤ qq n M p ∧ qq n M p < 2 * n ∧ qq n M p ≠ p ∧ qq n M (qq n M p) = p ∧ mate M (pl n p) = pl n (qq n M p) := by
    intro p h0 h2
    obtain ⟨a1, a2, _, a4, a5, a6⟩ := h.cl p h0 (by omega) (by simp)
    exact ⟨a1, by omega, a4, a5, a6⟩
  refine ⟨⟨h1, h8⟩, fun i hi => ?_, fun i k hi2 hk hx => ?_⟩
  · unfold OkAt
    by_cases hin : 2 * n ≤ (i : Int)
    · rw [if_pos hin]; exact h.out i hin hi
    · rw [if_neg hin]
      have b := pl_lt n i (by omega) (by omega)
      have pp := pl_pl n i (by omega) (by omega)
      obtain ⟨a1, a2, a3, a4, a5⟩ := cl _ b.1 b.2
      rw [pp] at a5
      rw [a5]
      have c := pl_lt n _ a1 a2
      refine ⟨c.2, fun e => a3 (by have e2 := congrArg (pl n) e; rwa [pl_pl n _ a1 a2] at e2), ?_⟩
      obtain ⟨_, _, _, _, c5⟩ := cl _ a1 a2
      rw [c5, a4, pp]
  · have bi := pl_lt n i (by omega) hi2
    have bk := pl_lt n k (by omega) hk
    obtain ⟨a1, a2, a3, a4, a5⟩ := cl _ bi.1 bi.2
    obtain ⟨c1, c2, c3, c4, c5⟩ := cl _ bk.1 bk.2
    have ei : pl n (mate M i) = qq n M (pl n i) := by unfold qq; rw [pl_pl n i (by omega) hi2]
    have ek : pl n (mate M k) = qq n M (pl n k) := by unfold qq; rw [pl_pl n k (by omega) hk]
    unfold Cross lo hi at hx
    rw [ei, ek] at hx
    obtain ⟨x1, x2, x3⟩ := hx
    have key : ∀ p r : Int, 0 ≤ p → p < 2 * n → p < r → r < qq n M p → qq n M r < qq n M p := fun p r p0 p2 q1 q2 =>
      (h.nest p r p0 (by omega) (by simp) q1 q2).2.2
    rcases Int.lt_or_le (pl n i) (qq n M (pl n i)) with d1 | d1 <;> rcases Int.lt_or_le (pl n k) (qq n M (pl n k)) with d2 | d2
    · have := key (pl n i) (pl n k) bi.1 bi.2 (by omega) (by omega); omega
    · have := key (pl n i) (qq n M (pl n k)) bi.1 bi.2 (by omega) (by omega); rw [c4] at this; omega
    · have := key (qq n M (pl n i)) (pl n k) a1 a2 (by omega) (by rw [a4]; omega); rw [a4] at this; omega
    · have := key (qq n M (pl n i)) (qq n M (pl n k)) a1 a2 (by omega) (by rw [a4]; omega); rw [c4, a4] at this; omega
theorem parse_isS (l : List UInt8) (n : Int) (ms : List Int) (h : parse l = some (n, ms)) : IsS n ms := by
  unfold parse at h
  split at h
  · rename_i hb
    split at h
    · rename_i M hp
      simp at h
      obtain ⟨e, rfl⟩ := h
      have hI := pst_inv _ _ hb.2.2 _ (by omega) _ _ hp
      rw [e] at hI hb
      exact Inv.isS hb.2.1 hb.2.2 (by rw [show (2 * n).toNat = l.length by omega]; exact hI)
    · simp at h
  · simp at h
/-- The program's test and the model's agree. -/
theorem isD_iff (n : Int) (ms : List Int) (hms : ms.length = 16) (hb : Bytes ms) : isD n ms = true ↔ IsS n ms := by
  unfold isD
  rw [Bool.and_eq_true, decide_eq_true_iff, decide_eq_true_iff]
  constructor
  · intro h; exact parse_isS _ _ _ h.2
  · intro h; exact ⟨h.1, parse_text hms (Net.of hb h)⟩
theorem l01Is_dec (n : Int) (ms : List Int) (hms : ms.length = 16) (hb : Bytes ms) (w : World) :
    Calls Try.prog 66 #[.agg (dcells n ms)] w fun e w' => e = .returned (.bool (isD n ms)) ∧ Below w.heap.size w w' :=
  (l01Is_any n ms hms hb w).mono fun e w' ⟨b, he, hi, hw⟩ => ⟨by rw [he, show b = isD n ms from Bool.eq_iff_iff.2 (hi.trans (isD_iff n ms hms hb).symm)], hw⟩
end Go.Proofs.Ytbibmncepjmgcaa
namespace Go.Proofs.Ytbibmncepjmgcaa
open Go.ChangeShapes Go.WideShapes Go.ChangeAt Go.RowKit
section
variable {H : Type} {enc : TypeId × Value → H} {w : World} {base : Nat} {spare : Nat → Bool} {held : Bool}
theorem cells50 : Try.prog.cellsOf 95 = 17 := by kernel_rfl
theorem cells24 : Try.prog.cellsOf 51 = 16 := by kernel_rfl
theorem cells2 : Try.prog.cellsOf 2 = 1 := by kernel_rfl
theorem cells5 : Try.prog.cellsOf 5 = 1 := by kernel_rfl
theorem bytes_of_cells (l : List Value) (h : l.length = 16) (hx : ∀ i, i < 16 → ∃ m, (l.drop i).take 1 = [Value.int .u8 m] ∧ (Lit.int .u8 m).wf = true) : ∃ ms : List Int, ms.length = 16 ∧ l = ms.map (Value.int .u8) ∧ Bytes ms := by
  have get : ∀ i (hi : i < l.length), ∃ m, l[i] = Value.int .u8 m ∧ (Lit.int .u8 m).wf = true := by
    intro i hi
    obtain ⟨m, hm, hw⟩ := hx i (by omega)
    have e : ((l.drop i).take 1)[0]? = some (Value.int .u8 m) := by rw [hm]; rfl
    refine ⟨m, ?_, hw⟩
    simpa [List.getElem?_take, List.getElem?_eq_getElem hi] using e
  refine ⟨l.map intOf, by simp [h], ?_, ?_⟩
  · apply List.ext_getElem (by simp)
    intro i h1 h2
    obtain ⟨m, hm, _⟩ := get i h1
    simp [hm, intOf]
  · intro x hxm
    rw [List.mem_map] at hxm
    obtain ⟨v, hv, rfl⟩ := hxm
    obtain ⟨i, hi, rfl⟩ := List.getElem_of_mem hv
    obtain ⟨m, hm, hw⟩ := get i hi
    rw [hm]
    exact bounds_u8 hw
set_option maxRecDepth 100000 in
theorem open_diagram {r : Reach} {b0 : Nat} {v : Value} {d : DataW H} {p : List MemPlace} (hv : Value.okWide Try.prog w r b0 95 v) (h : DataW.Trod enc Try.prog w base spare held 95 v d p) :
    ∃ (n : Int) (ms : List Int), v = .agg (dcells n ms) ∧ (Lit.int .i64 n).wf = true ∧ ms.length = 16 ∧ Bytes ms := by
  obtain ⟨cs, rfl, hsz⟩ := okWide_struct Try.underlying95 hv
  obtain ⟨l⟩ := cs
  obtain ⟨fuel, hf⟩ := h
  obtain ⟨xs, m, _, hx, _, hlen, hg⟩ := DataW.trod_struct Try.underlying95 hf
  rw [cells50] at hsz
  have hl : l.length = 17 := by simpa using hsz
  match xs, hlen with
  | [y0, y1], _ =>
    have g0 : DataW.trod enc Try.prog w base spare held m 2 ((l.drop 0).take (Try.prog.cellsOf 2)) = some y0 := hg 0 _ rfl
    have g1 : DataW.trod enc Try.prog w base spare held m 51 ((l.drop 1).take (Try.prog.cellsOf 51)) = some y1 := hg 1 _ rfl
    obtain ⟨n, e0, _, wn⟩ := DataW.trod_int Try.underlying2 g0
    obtain ⟨ys, m2, _, _, _, hn16, hel⟩ := DataW.trod_array Try.underlying51 g1
    rw [cells2] at e0
    rw [cells24] at hel
    obtain ⟨ms, hms, hE, hB⟩ := bytes_of_cells ((l.drop 1).take 16) (by simp; omega) (by
      intro i hi
      have h2 := hel i hi
      rw [cells5] at h2
      have : ys[i]? = some (ys[i]'(by omega)) := List.getElem?_eq_getElem (by omega)
      rw [this] at h2
      obtain ⟨x, ex, _, wx⟩ := DataW.trod_int Try.underlying5 h2
      exact ⟨x, by simpa using ex, wx⟩)
    refine ⟨n, ms, ?_, wn, hms, hB⟩
    unfold dcells
    rw [← hE]
    congr 1
    match l, hl with
    | a :: t, hl =>
      simp at e0 hl
      rw [e0]
      simp [List.take_of_length_le (show t.length ≤ 16 by omega)]
end
end Go.Proofs.Ytbibmncepjmgcaa
