/- The plain function that writes a diagram as a text, and the contract of the program's own. -/
import Derived.Test.YtdmgmhjclagnpaaImplC
namespace Go.Proofs.Ytdmgmhjclagnpaa
open Go.RowKit
/-- The byte at a place. -/
def chAt (n : Int) (ms : List Int) (p : Nat) : Int := if (p : Int) < pl n (ms.getD (pl n p).toNat 0) then 40 else 41
/-- The bytes of the first k places, and zeros behind them. -/
def letL (n : Int) (ms : List Int) (N : Nat) : Nat → List Int
  | 0 => List.replicate (2 * N) 0
  | k + 1 => (letL n ms N k).set k (chAt n ms k)
def textS (n : Int) (ms : List Int) : ByteArray := strOfNums (letL n ms n.toNat (2 * n.toNat))
theorem letL_len (n : Int) (ms : List Int) (N k : Nat) : (letL n ms N k).length = 2 * N := by
  induction k with
  | zero => simp [letL]
  | succ k ih => simp [letL, ih]
/-- All are bytes. -/
def Bytes (ms : List Int) : Prop := ∀ x ∈ ms, 0 ≤ x ∧ x ≤ 255
theorem Bytes.get {ms : List Int} (h : Bytes ms) (i : Nat) : 0 ≤ ms.getD i 0 ∧ ms.getD i 0 ≤ 255 := by
  rw [List.getD_eq_getElem?_getD]
  by_cases hi : i < ms.length
  · rw [List.getElem?_eq_getElem hi]; exact h _ (List.getElem_mem hi)
  · rw [List.getElem?_eq_none (by omega)]; simp
theorem makeN (N : Nat) (h1 : 1 ≤ N) (h8 : N ≤ 8) : ∀ w : World, (Instr.makeSlice 106 (.int .i64 (2 * (N : Int))) (.int .i64 (2 * (N : Int)))).run Try.prog w = .ok (.slice (some ⟨w.heap.size, 0, none⟩) (2 * N) (2 * N)) (w.alloc (.cells (mcells (List.replicate (2 * N) 0)) 5)) := by
  have h : N = 1 ∨ N = 2 ∨ N = 3 ∨ N = 4 ∨ N = 5 ∨ N = 6 ∨ N = 7 ∨ N = 8 := by omega
  rcases h with rfl | rfl | rfl | rfl | rfl | rfl | rfl | rfl <;> (intro w; kernel_rfl)
set_option maxRecDepth 100000 in
set_option maxHeartbeats 1000000 in
theorem textI_nat (N : Nat) (ms : List Int) (hms : ms.length = 16) (hb : Bytes ms) (w : World) (h1 : 1 ≤ N) (h8 : N ≤ 8) :
    Calls Try.prog 78 #[.agg (dcells N ms)] w fun e w' => e = .returned (.string (strOfNums (letL N ms N (2 * N)))) ∧ Below w.heap.size w w' := by
  have hl := Lib.hid hms
  have hbb := Lib.hid hb
  have c0 := dcells_zero N ms
  have hmk := makeN N h1 h8
  clear hms hb
  go_enter Try.func78, Try.ntmps78
  go_wp2
  clear hmk c0
  go_loopw [14] (fun i wr => ∃ k : Nat, k ≤ 2 * N ∧ i = .int .i64 k ∧ Own wr w.heap.size (dcells N ms) 53 ∧ Own wr (w.heap.size + 1) (mcells (letL N ms N k)) 5 ∧ Below w.heap.size w wr) (fun i _ => (2 * N - intOf i).toNat)
  case atStart => exact ⟨0, by omega, rfl, Own.alloc (Own.new _ _ _) _, Own.at _ _ _ (by simp), ((Below.refl _ _).alloc (Nat.le_refl _) _).alloc (by simp) _⟩
  case round =>
    obtain ⟨k, hk, rfl, hO, hT, hB⟩ := hrel
    have hll := letL_len N ms N k
    by_cases hlt : k < 2 * N
    · have pb := pl_bd N k (by omega) (by omega) (by omega)
      obtain ⟨p, hp⟩ : ∃ p, pl N k = p := ⟨_, rfl⟩
      rw [hp] at pb
      have c1 : wr.cell? ⟨w.heap.size, 1 + p.toNat, none⟩ = some (.int .u8 (ms.getD p.toNat 0)) := by rw [hO.cell, dcells_get _ _ _ (by rw [hl.out]; omega)]
      obtain ⟨m, hm⟩ : ∃ m, ms.getD p.toNat 0 = m := ⟨_, rfl⟩
      have mb := hbb.out.get p.toNat
      rw [hm] at c1 mb
      have hch := Lib.hid (show chAt N ms k = if (k : Int) < pl N m then 40 else 41 by unfold chAt; rw [hp, hm])
      have c2 : wr.cell? ⟨w.heap.size + 1, k, none⟩ = some (.int .u8 ((letL N ms N k).getD k 0)) := by rw [hT.cell, mcells_get _ _ (by omega)]
      have c3 : (wr.setCell ⟨w.heap.size + 1, k, none⟩ (.int .u8 41)).cell? ⟨w.heap.size + 1, k, none⟩ = some (.int .u8 41) := by rw [(hT.set _ _).cell, mcells_set, mcells_get _ _ (by simp; omega)]; simp [hll, hlt]
      have f2 := hT.free k
      have hP := Lib.hid hp
      have hM := Lib.hid hm
      have hLL := Lib.hid hll
      clear hp hm hll
      by_cases hc : (k : Int) < pl N m
      · have hT2 : Own ((wr.setCell ⟨w.heap.size + 1, k, none⟩ (.int .u8 41)).setCell ⟨w.heap.size + 1, k, none⟩ (.int .u8 40)) (w.heap.size + 1) (mcells (letL N ms N (k + 1))) 5 := by
          have := (hT.set k (.int .u8 41)).set k (.int .u8 40)
          rw [mcells_set, mcells_set, List.set_set] at this
          rw [letL, hch.out, if_pos hc]; exact this
        have hO2 : Own ((wr.setCell ⟨w.heap.size + 1, k, none⟩ (.int .u8 41)).setCell ⟨w.heap.size + 1, k, none⟩ (.int .u8 40)) w.heap.size (dcells N ms) 53 := (hO.other (by simp) _).other (by simp) _
        have hB2 : Below w.heap.size w ((wr.setCell ⟨w.heap.size + 1, k, none⟩ (.int .u8 41)).setCell ⟨w.heap.size + 1, k, none⟩ (.int .u8 40)) := (hB.setCell (by simp) _).setCell (by simp) _
        have K1 := Lib.hid hT2
        have K2 := Lib.hid hO2
        have K3 := Lib.hid hB2
        clear hT2 hO2 hB2 hT
        go_wp2_with (first
          | (go_at_call 92; ((with_reducible refine ((pointI_any N k _ (by omega) (by omega) (by omega) (by omega)).mono (fun e w' h => (by rw [hP.out] at h; exact h : e = .returned (.int .i64 p) ∧ _))).mono ?_); rintro e w0 ⟨rfl, rfl⟩))
          | (go_at_call 93; ((with_reducible refine (placeI_any N m _ (by omega) (by omega) (by omega) (by omega)).mono ?_); rintro e w0 ⟨rfl, rfl⟩)))
        go_roundw
        case rel => exact ⟨k + 1, by omega, by go_num, K2.out, K1.out, K3.out⟩
        case measure => simp [intOf]; omega
      · have hT2 : Own (wr.setCell ⟨w.heap.size + 1, k, none⟩ (.int .u8 41)) (w.heap.size + 1) (mcells (letL N ms N (k + 1))) 5 := by
          have := hT.set k (.int .u8 41)
          rw [mcells_set] at this
          rw [letL, hch.out, if_neg hc]; exact this
        have hO2 : Own (wr.setCell ⟨w.heap.size + 1, k, none⟩ (.int .u8 41)) w.heap.size (dcells N ms) 53 := hO.other (by simp) _
        have hB2 : Below w.heap.size w (wr.setCell ⟨w.heap.size + 1, k, none⟩ (.int .u8 41)) := hB.setCell (by simp) _
        have K1 := Lib.hid hT2
        have K2 := Lib.hid hO2
        have K3 := Lib.hid hB2
        clear hT2 hO2 hB2 hT
        go_wp2_with (first
          | (go_at_call 92; ((with_reducible refine ((pointI_any N k _ (by omega) (by omega) (by omega) (by omega)).mono (fun e w' h => (by rw [hP.out] at h; exact h : e = .returned (.int .i64 p) ∧ _))).mono ?_); rintro e w0 ⟨rfl, rfl⟩))
          | (go_at_call 93; ((with_reducible refine (placeI_any N m _ (by omega) (by omega) (by omega) (by omega)).mono ?_); rintro e w0 ⟨rfl, rfl⟩)))
        go_roundw
        case rel => exact ⟨k + 1, by omega, by go_num, K2.out, K1.out, K3.out⟩
        case measure => simp [intOf]; omega
    · have hk2 : k = 2 * N := by omega
      subst hk2
      have hcv := run_convert_bytes_arg wr 106 5 Try.underlying106 Try.underlying5 (w.heap.size + 1) 0 (2 * N) (2 * N) (letL N ms N (2 * N)) hll
        (fun i hi => by rw [Nat.zero_add, hT.cell, mcells_get _ _ (by omega)]) 9 Try.underlying9
      have HLL := Lib.hid hll
      clear hll
      go_wp2
      go_ret
      exact ⟨rfl, hB⟩
theorem textI_any (n : Int) (ms : List Int) (hms : ms.length = 16) (hb : Bytes ms) (w : World) (h1 : 1 ≤ n) (h8 : n ≤ 8) :
    Calls Try.prog 78 #[.agg (dcells n ms)] w fun e w' => e = .returned (.string (textS n ms)) ∧ Below w.heap.size w w' := by
  have h := textI_nat n.toNat ms hms hb w (by omega) (by omega)
  have e1 : ((n.toNat : Nat) : Int) = n := by omega
  rw [e1] at h
  exact h
end Go.Proofs.Ytdmgmhjclagnpaa
