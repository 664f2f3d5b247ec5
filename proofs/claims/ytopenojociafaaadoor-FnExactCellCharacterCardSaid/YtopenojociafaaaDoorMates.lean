/- Small facts of mates; what a call leaves as it was. -/
import Derived.Test.YtopenojociafaaaDoorDiaB
namespace Go.Proofs.YtopenojociafaaaDoor
open Go.RowKit
theorem mate_lt {n : Int} {ms : List Int} (hb : Bytes ms) (hd : IsS n ms) (p : Int) (h0 : 0 ≤ p) (h2 : p < 2 * n) : 0 ≤ mate ms p ∧ mate ms p < 2 * n := by
  have hN := Net.of hb hd
  have b := pl_lt n p h0 h2
  have m := hN.mt (pl n p) b.1 b.2
  rw [pl_pl n p h0 h2] at m
  have q := hN.lt (pl n p) b.1 b.2
  rw [m]; exact pl_lt n _ q.1 q.2.1
/-- Of what was there, only block g may have turned. -/
structure Most (g : Nat) (w w' : World) : Prop where
  os : w'.os = w.os
  tape : w'.tape = w.tape
  output : w'.output = w.output
  size : w.heap.size ≤ w'.heap.size
  block : ∀ k, k < w.heap.size → k ≠ g → w'.heap[k]? = w.heap[k]?
theorem Most.refl (g : Nat) (w : World) : Most g w w := ⟨rfl, rfl, rfl, Nat.le_refl _, fun _ _ _ => rfl⟩
theorem Most.trans {g : Nat} {u v w : World} (h : Most g u v) (k : Most g v w) : Most g u w :=
  ⟨k.os.trans h.os, k.tape.trans h.tape, k.output.trans h.output, Nat.le_trans h.size k.size, fun i hi hg => (k.block i (Nat.lt_of_lt_of_le hi h.size) hg).trans (h.block i hi hg)⟩
theorem Only.most {g : Nat} {w w' : World} (h : Only g w w') : Most g w w' := ⟨h.below.os, h.below.tape, h.below.output, Nat.le_of_eq h.size.symm, fun k _ hg => h.other k hg⟩
theorem most_of_below {g : Nat} {w w' : World} (h : Below w.heap.size w w') : Most g w w' := ⟨h.os, h.tape, h.output, h.size, fun k hk _ => h.block k hk⟩
theorem Own.most {w w' : World} {b g : Nat} {cs : Array Value} {t : TypeId} (h : Own w b cs t) (hm : Most g w w') (hb : b ≠ g) : Own w' b cs t := by
  show w'.heap[b]? = _
  rw [hm.block b h.lt hb]; exact h
theorem Most.below {g B : Nat} {w w' : World} (h : Most g w w') (hB : B ≤ w.heap.size) (hg : B ≤ g) : Below B w w' :=
  ⟨h.os, h.tape, h.output, h.size, fun k hk => h.block k (by omega) (by omega)⟩
theorem set_get (l : List Int) (hl : l.length = 16) (j : Nat) (hj : j < 16) (v : Int) (i : Nat) : (l.set j v).getD i 0 = if i = j then v else l.getD i 0 := by
  rw [List.getD_eq_getElem?_getD, List.getD_eq_getElem?_getD, List.getElem?_set]
  by_cases e : j = i
  · subst e; simp [hl, hj]
  · rw [if_neg e, if_neg (fun h => e h.symm)]
theorem zeros_get (j : Nat) : zeros.getD j 0 = 0 := by
  unfold zeros
  rw [List.getD_eq_getElem?_getD, List.getElem?_replicate]
  split <;> rfl
theorem mate_inv {n : Int} {ms : List Int} (hd : IsS n ms) (p : Int) (h0 : 0 ≤ p) (h2 : p < 2 * n) : mate ms (mate ms p) = p := by
  have hn := hd.1
  have h := hd.2.1 p.toNat (by omega)
  rw [show ((p.toNat : Nat) : Int) = p by omega] at h
  unfold OkAt at h
  rw [if_neg (by omega)] at h
  exact h.2.2
end Go.Proofs.YtopenojociafaaaDoor
