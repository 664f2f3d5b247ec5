/- The contract of the program's half of a diagram. -/
import Derived.Test.YtopenojociafaaaDoorHalfM
namespace Go.Proofs.YtopenojociafaaaDoor
open Go.RowKit
theorem makeB (N : Nat) (h1 : 1 ≤ N) (h8 : N ≤ 8) : ∀ w : World, (Instr.makeSlice 69 (.int .i64 (N : Int)) (.int .i64 (N : Int))).run Tryd.prog w = .ok (.slice (some ⟨w.heap.size, 0, none⟩) N N) (w.alloc (.cells (mcells (List.replicate N 0)) 5)) := by
  have h : N = 1 ∨ N = 2 ∨ N = 3 ∨ N = 4 ∨ N = 5 ∨ N = 6 ∨ N = 7 ∨ N = 8 := by omega
  rcases h with rfl | rfl | rfl | rfl | rfl | rfl | rfl | rfl <;> (intro w; kernel_rfl)
set_option maxRecDepth 100000 in
set_option maxHeartbeats 1000000 in
theorem halfI_nat (N F : Nat) (ms : List Int) (hms : ms.length = 16) (hb : Bytes ms) (w : World) (h1 : 1 ≤ N) (h8 : N ≤ 8) (hF : F ≤ 8) :
    Calls Tryd.prog 54 #[.agg (dcells N ms), .int .i64 (F : Int)] w fun e w' => e = .returned (.string (strOfNums (hfL N F ms N))) ∧ Below w.heap.size w w' := by
  have hl := Lib.hid hms
  have hbb := Lib.hid hb
  have c0 := dcells_zero N ms
  have hmk := makeB N h1 h8
  clear hms hb
  go_enter Tryd.func54, Tryd.ntmps54
  go_wp2
  clear hmk c0
  go_loopw [13] (fun i wr => ∃ k : Nat, k ≤ N ∧ i = .int .i64 k ∧ Own wr w.heap.size (dcells N ms) 32 ∧ Own wr (w.heap.size + 1) (mcells (hfZ N F ms N k)) 5 ∧ Below w.heap.size w wr) (fun i _ => (N - intOf i).toNat)
  case atStart => exact ⟨0, by omega, rfl, Own.alloc (Own.new _ _ _) _, by rw [hfZ_zero]; exact Own.at _ _ _ (by simp), ((Below.refl _ _).alloc (Nat.le_refl _) _).alloc (by simp) _⟩
  case round =>
    obtain ⟨k, hk, rfl, hO, hT, hB⟩ := hrel
    have hll := hfZ_len N F ms N k hk
    have k0 := hO.cell 0
    rw [dcells_zero] at k0
    by_cases hlt : k < N
    · have hltI : (k : Int) < N := by omega
      obtain ⟨p, hp⟩ : ∃ p : Int, (F : Int) + (k : Int) = p := ⟨_, rfl⟩
      have hp0 : 0 ≤ p := by omega
      have hp16 : p < 16 := by omega
      have hpN : p.toNat = F + k := by omega
      have c1 : wr.cell? ⟨w.heap.size, 1 + p.toNat, none⟩ = some (.int .u8 (ms.getD p.toNat 0)) := by rw [hO.cell, dcells_get _ _ _ (by rw [hl.out]; omega)]
      obtain ⟨m, hm⟩ : ∃ m, ms.getD p.toNat 0 = m := ⟨_, rfl⟩
      have mb := hbb.out.get p.toNat
      rw [hm] at c1 mb
      obtain ⟨mb1, mb2⟩ := mb
      have HCH := Lib.hid (show hch N F (ms.getD (((F : Int)).toNat + k) 0) k = if m - F < 0 ∨ (N : Int) ≤ m - F then 124 else if (k : Int) < m - F then 40 else 41 by unfold hch; rw [show ((F : Int)).toNat + k = p.toNat by omega, hm])
      have hst := Lib.hid (hfZ_set N F ms N k hlt)
      have c2 : wr.cell? ⟨w.heap.size + 1, k, none⟩ = some (.int .u8 ((hfZ N F ms N k).getD k 0)) := by rw [hT.cell, mcells_get _ _ (by omega)]
      have f2 := hT.free k
      have hset : ∀ x : Int, hch N F (ms.getD (((F : Int)).toNat + k) 0) k = x → Own (wr.setCell ⟨w.heap.size + 1, k, none⟩ (.int .u8 x)) (w.heap.size + 1) (mcells (hfZ N F ms N (k + 1))) 5 := by
        intro x hx
        have := hT.set k (.int .u8 x)
        rw [mcells_set, ← hx, hst.out] at this
        rw [← hx]; exact this
      have hO2 : ∀ x : Int, Own (wr.setCell ⟨w.heap.size + 1, k, none⟩ (.int .u8 x)) w.heap.size (dcells N ms) 32 := fun x => hO.other (by simp) _
      have hB2 : ∀ x : Int, Below w.heap.size w (wr.setCell ⟨w.heap.size + 1, k, none⟩ (.int .u8 x)) := fun x => hB.setCell (by simp) _
      have hwr : IntKind.i64.wrap m = m := IntWalk.i64_in _ (by omega)
      have HP := Lib.hid hp
      have K1 := Lib.hid hset
      have K2 := Lib.hid hO2
      have K3 := Lib.hid hB2
      clear hset hO2 hB2 hT hm hpN hll
      by_cases g1 : m - (F : Int) < 0
      · have K0 := Lib.hid (show hch N F (ms.getD (((F : Int)).toNat + k) 0) k = 124 by rw [HCH.out, if_pos (.inl g1)])
        clear HCH hst
        go_wp2
        go_roundw
        case rel => exact ⟨k + 1, by omega, by go_num, K2.out _, K1.out _ K0.out, K3.out _⟩
        case measure => simp [intOf]; omega
      · by_cases g2 : (N : Int) ≤ m - F
        · have K0 := Lib.hid (show hch N F (ms.getD (((F : Int)).toNat + k) 0) k = 124 by rw [HCH.out, if_pos (.inr g2)])
          clear HCH hst
          go_wp2
          go_roundw
          case rel => exact ⟨k + 1, by omega, by go_num, K2.out _, K1.out _ K0.out, K3.out _⟩
          case measure => simp [intOf]; omega
        · by_cases g3 : (k : Int) < m - F
          · have K0 := Lib.hid (show hch N F (ms.getD (((F : Int)).toNat + k) 0) k = 40 by rw [HCH.out, if_neg (by omega), if_pos g3])
            clear HCH hst
            go_wp2
            go_roundw
            case rel => exact ⟨k + 1, by omega, by go_num, K2.out _, K1.out _ K0.out, K3.out _⟩
            case measure => simp [intOf]; omega
          · have K0 := Lib.hid (show hch N F (ms.getD (((F : Int)).toNat + k) 0) k = 41 by rw [HCH.out, if_neg (by omega), if_neg g3])
            clear HCH hst
            go_wp2
            go_roundw
            case rel => exact ⟨k + 1, by omega, by go_num, K2.out _, K1.out _ K0.out, K3.out _⟩
            case measure => simp [intOf]; omega
    · have hk2 : k = N := by omega
      subst hk2
      rw [hfZ_end] at hll hT
      have hcv := run_convert_bytes_arg wr 69 5 Tryd.underlying69 Tryd.underlying5 (w.heap.size + 1) 0 k k (hfL k F ms k) hll
        (fun i hi => by rw [Nat.zero_add, hT.cell, mcells_get _ _ (by omega)]) 9 Tryd.underlying9
      have HLL := Lib.hid hll
      clear hll
      go_wp2
      go_ret
      exact ⟨rfl, hB⟩
theorem halfI_any (n f : Int) (ms : List Int) (hms : ms.length = 16) (hb : Bytes ms) (w : World) (h1 : 1 ≤ n) (h8 : n ≤ 8) (hf : f = 0 ∨ f = n) :
    Calls Tryd.prog 54 #[.agg (dcells n ms), .int .i64 f] w fun e w' => e = .returned (.string (halfB n f ms)) ∧ Below w.heap.size w w' := by
  have h := halfI_nat n.toNat f.toNat ms hms hb w (by omega) (by omega) (by omega)
  have e1 : ((n.toNat : Nat) : Int) = n := by omega
  have e2 : ((f.toNat : Nat) : Int) = f := by omega
  rw [e1, e2] at h
  exact h
end Go.Proofs.YtopenojociafaaaDoor
