/- Contracts of the program's moving of lines, whatever function leads the points. -/
import Derived.Test.YtpmcngmphkegnaaKp
import Derived.Test.YtpmcngmphkegnaaKa
namespace Go.Proofs.Ytpmcngmphkegnaa
open Go.RowKit
/-- The lines of a diagram, moved, of the first k points. -/
def mvL (f : Int → Int) (ms : List Int) (M : List Int) : Nat → List Int
  | 0 => M
  | k + 1 => joinL (mvL f ms M k) (f k) (f (mate ms k))
theorem mvL_len (f : Int → Int) (ms M : List Int) (h : M.length = 16) (k : Nat) : (mvL f ms M k).length = 16 := by
  induction k with
  | zero => exact h
  | succ k ih => simp [mvL, joinL_len, ih]
set_option maxRecDepth 100000 in
set_option maxHeartbeats 1000000 in
theorem moveLines_any (K : Nat) (cap : Array Value) (S : World → Prop) (f : Int → Int) (g : Nat) (n : Int) (ms M0 : List Int) (hms : ms.length = 16) (hb : Bytes ms) (hd : IsS n ms) (hM0 : M0.length = 16)
    (hE : ∀ (args : Array Value) (w : World), (callFunc K args).run Try.prog w = .ok (.enter K args) w) (hS : ∀ w w', S w → Most g w w' → S w')
    (hK : ∀ w i, S w → 0 ≤ i → i < 2 * n → Calls Try.prog K (#[.int .i64 i] ++ cap) w fun e w' => e = .returned (.int .i64 (f i)) ∧ w' = w)
    (hf : ∀ i, 0 ≤ i → i < 2 * n → 0 ≤ f i ∧ f i < 16) (w : World) (hw : S w) (hg : Own w g (mcells M0) 5) :
    Calls Try.prog 113 #[.slice (some ⟨g, 0, none⟩) 16 16, .agg (dcells n ms), .func (.func K) #[] cap] w fun e w' => e = .returned (.tuple #[]) ∧ S w' ∧ Own w' g (mcells (mvL f ms M0 (2 * n).toNat)) 5 ∧ Most g w w' := by
  have hl := Lib.hid hms
  have hbb := Lib.hid hb
  have hmt := Lib.hid (mate_lt hb hd)
  have HS := Lib.hid hS
  have HK := Lib.hid hK
  have HF := Lib.hid hf
  have HM := Lib.hid hM0
  have HE := Lib.hid hE
  obtain ⟨h1, h8⟩ := hd.1
  have c0 := dcells_zero n ms
  have hglt := hg.lt
  clear hms hb hd hS hK hf hM0 hE
  go_enter Try.func113, Try.ntmps113
  go_wp2
  have hOa : Own (w.alloc (.cells (dcells n ms) 68)) w.heap.size (dcells n ms) 68 := Own.new _ _ _
  have hGa : Own (w.alloc (.cells (dcells n ms) 68)) g (mcells M0) 5 := hg.alloc _
  have hBa : Most g w (w.alloc (.cells (dcells n ms) 68)) := most_of_below ((Below.refl _ _).alloc (Nat.le_refl _) _)
  have hSa : S (w.alloc (.cells (dcells n ms) 68)) := HS.out _ _ hw hBa
  generalize w.alloc (.cells (dcells n ms) 68) = wa at *
  clear c0 hg hw
  go_loopw [10] (fun i wr => ∃ k : Nat, k ≤ 2 * n ∧ i = .int .i64 k ∧ S wr ∧ Own wr w.heap.size (dcells n ms) 68 ∧ Own wr g (mcells (mvL f ms M0 k)) 5 ∧ Most g w wr) (fun i _ => (2 * n - intOf i).toNat)
  case atStart => exact ⟨0, by omega, rfl, hSa, hOa, hGa, hBa⟩
  case round =>
    clear hOa hGa hBa hSa
    obtain ⟨k, hk, rfl, hW, hO, hG, hB⟩ := hrel
    by_cases hlt : (k : Int) < 2 * n
    · have hml := Lib.hid (mvL_len f ms M0 HM.out k)
      have mm := hmt.out k (by omega) hlt
      obtain ⟨m, hm⟩ : ∃ m, mate ms k = m := ⟨_, rfl⟩
      have c1 : (dcells n ms)[1 + k]? = some (.int .u8 m) := by rw [dcells_get _ _ _ (by rw [hl.out]; omega), ← hm, mate_nat]
      rw [hm] at mm
      obtain ⟨mm0, mm2⟩ := mm
      have fk := HF.out k (by omega) hlt
      have fm := HF.out m mm0 mm2
      have hst := Lib.hid (show mvL f ms M0 (k + 1) = joinL (mvL f ms M0 k) (f k) (f m) by rw [mvL, hm])
      have C1 := Lib.hid c1
      clear hm c1
      go_wp2
      refine wp_region_still_tail 11 (by kernel_rfl) (by kernel_rfl) ?_
      have hW' : S { wr with drawn := wr.drawn + 1 } := HS.out _ _ hW (most_of_below ((Below.refl _ _).drew))
      have hO' : Own { wr with drawn := wr.drawn + 1 } w.heap.size (dcells n ms) 68 := hO
      have hG' : Own { wr with drawn := wr.drawn + 1 } g (mcells (mvL f ms M0 k)) 5 := hG
      have hB' : Most g w { wr with drawn := wr.drawn + 1 } := hB.trans (most_of_below ((Below.refl _ _).drew))
      clear hW hO hG hB
      generalize ({ wr with drawn := wr.drawn + 1 } : World) = wd at *
      have k1 := hO'.cell (1 + k)
      rw [C1.out] at k1
      have hk16 : (k : Int) < 16 := by omega
      have q1 := Lib.hid (HK.out wd k hW' (by omega) hlt)
      have q2 := Lib.hid (HK.out wd m hW' mm0 mm2)
      have hwr : IntKind.i64.wrap m = m := IntWalk.i64_in _ (by omega)
      have hE := HE.out
      simp only [List.take_succ_cons, List.take_zero, List.drop_succ_cons, List.drop_zero]
      still_step
      still_step
      still_step
      still_call q1.out
      still_step
      still_step
      still_step
      still_step
      still_step
      still_step
      still_call q2.out
      refine wpStill_nil ?_
      clear hwr k1 hE
      go_wp2_with (first
        | (go_at_call 109; ((with_reducible refine (join_any g _ hml.out (f k) (f m) _ hG' fk.1 fk.2 fm.1 fm.2).mono ?_); rintro e w2 ⟨rfl, hG2, hN2⟩)))
      have hW2 := HS.out _ _ hW' hN2.most
      have hO2 := hO'.only hN2 (Nat.ne_of_gt hglt)
      have hB2 := hB'.trans hN2.most
      rw [← hst.out] at hG2
      clear hW' hO' hG' hB' hN2
      go_wp2
      go_roundw
      case rel => exact ⟨k + 1, by omega, by go_num, hW2, hO2, hG2, hB2⟩
      case measure => simp [intOf]; omega
    · have e := Lib.hid (show (2 * n).toNat = k by omega)
      go_wp2
      go_end0
      exact ⟨rfl, hW, by rw [e.out]; exact hG, hB⟩
end Go.Proofs.Ytpmcngmphkegnaa
