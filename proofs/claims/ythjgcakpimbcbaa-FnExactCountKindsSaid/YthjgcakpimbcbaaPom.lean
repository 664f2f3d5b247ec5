/- Contracts of the program's parts of points with marks. -/
import Derived.Test.YthjgcakpimbcbaaPtM
namespace Go.Proofs.Ythjgcakpimbcbaa
open Go.RowKit
set_option linter.unusedVariables false
/-- Cells from o on, of the block b, hold what a list says. -/
def Rdf (f : Int → Value) (w : World) (b o : Nat) (xs : List Int) : Prop := ∀ j, j < xs.length → w.cell? ⟨b, o + j, none⟩ = some (f (xs.getD j 0))
theorem Rdf.below {f : Int → Value} {w w' : World} {b o : Nat} {xs : List Int} (h : Rdf f w b o xs) (hb : b < w.heap.size) {B : Nat} (hB : Below B w w') (hlt : b < B) : Rdf f w' b o xs := fun j hj => by
  rw [← h j hj]; unfold World.cell?; rw [hB.block _ hlt]
theorem Rdf.only {f : Int → Value} {w w' : World} {b o g : Nat} {xs : List Int} (h : Rdf f w b o xs) (hO : Only g w w') (hne : b ≠ g) : Rdf f w' b o xs := fun j hj => by
  rw [← h j hj]; unfold World.cell?; rw [hO.other _ hne]

set_option maxRecDepth 100000 in
set_option maxHeartbeats 1000000 in
/-- The first place of a mark. -/
theorem idxB_any (b o c : Nat) (xs : List Int) (x : Int) (w : World) (hl : xs.length ≤ 1000000) (hR : Rdf (Value.int .u8) w b o xs) :
    Calls Try.prog 47 #[.slice (some ⟨b, o, none⟩) xs.length c, (Value.int .u8) x] w fun e w' => e = .returned (.int .i64 (if fi xs x < xs.length then (fi xs x : Int) else -1)) ∧ w = w' := by
  obtain ⟨n, hn⟩ : ∃ n, xs.length = n := ⟨_, rfl⟩
  have hN := Lib.hid hn
  have hR' := Lib.hid hR
  have hge := Lib.hid (fi_ge xs x)
  have heq := Lib.hid (fi_eq xs x)
  obtain ⟨r, hr⟩ : ∃ r : Int, (if fi xs x < xs.length then (fi xs x : Int) else -1) = r := ⟨_, rfl⟩
  have hr' := Lib.hid hr
  rw [hr]
  rw [hn] at hl ⊢
  clear hR hn hr
  go_enter Try.func47, Try.ntmps47
  go_wp2
  go_loopw [4, 5, 8] (fun r _ i wr => ∃ k : Nat, k ≤ n ∧ i = .int .i64 k ∧ r = .int .i64 0 ∧ Hid (∀ j, j < k → xs.getD j 0 ≠ x) ∧ w = wr) (fun _ _ i _ => ((n : Int) - intOf i).toNat)
  case atStart => exact ⟨0, by omega, rfl, rfl, Lib.hid (fun j hj => absurd hj (Nat.not_lt_zero _)), rfl⟩
  case round =>
    obtain ⟨k, hk, rfl, rfl, hH, rfl⟩ := hrel
    by_cases hlt : k < n
    · have c1 := hR'.out k (by rw [hN.out]; exact hlt)
      have i1 : (k : Int) < (n : Int) := by omega
      by_cases he : xs.getD k 0 = x
      · have e1 := Lib.hid (heq.out k (by rw [hN.out]; exact hlt) he hH.out)
        have hn' := Lib.hid (show (k : Int) = r by rw [← hr'.out, e1.out, if_pos (by rw [hN.out]; exact hlt)])
        rw [he] at c1
        clear he
        go_wp2
        go_ret
        exact ⟨by rw [hn'.out]; rfl, rfl⟩
      · have hst := Lib.hid (show ∀ j, j < k + 1 → xs.getD j 0 ≠ x from fun j hj => by
          by_cases e : j = k
          · rw [e]; exact he
          · exact hH.out j (by omega))
        generalize xs.getD k 0 = y at *
        have hne : (x == y) = false := by simpa using fun e : x = y => he e.symm
        clear hH he
        go_wp2
        go_roundw
        case rel => exact ⟨k + 1, by omega, by go_num, rfl, hst, trivial⟩
        case measure => simp [intOf]; omega
    · obtain rfl : k = n := by omega
      have hn' := Lib.hid (show (-1 : Int) = r by rw [← hr'.out]; have := hge.out k (by rw [hN.out]; exact Nat.le_refl _) hH.out; have := hN.out; rw [if_neg (by omega)])
      go_wp2
      go_ret
      exact ⟨by rw [hn'.out]; rfl, rfl⟩

end Go.Proofs.Ythjgcakpimbcbaa
