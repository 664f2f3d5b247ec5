/- Contracts of the laws' own copies of diagrams. -/
import Derived.Test.YthjgcakpimbcbaaLawA
namespace Go.Proofs.Ythjgcakpimbcbaa
open Go.RowKit
/-- The first k of the numbers, and zeros behind them. -/
def cpy (ms : List Int) : Nat → List Int
  | 0 => zeros
  | k + 1 => (cpy ms k).set k (ms.getD k 0)
theorem cpy_len (ms : List Int) (k : Nat) : (cpy ms k).length = 16 := by
  induction k with
  | zero => rfl
  | succ k ih => simp [cpy, ih]
theorem cpy_end (ms : List Int) (h : ms.length = 16) : cpy ms 16 = ms := by
  obtain ⟨a0, a1, a2, a3, a4, a5, a6, a7, a8, a9, b0, b1, b2, b3, b4, b5, rfl⟩ := list16 ms h
  rfl
theorem one24 (ms : List Int) : (mcells ms).all (·.oneCell') = true := by simp [mcells, Value.oneCell']
def setMany (cs : Array Value) : Nat → List Value → Array Value
  | _, [] => cs
  | o, v :: r => setMany (cs.setIfInBounds o v) (o + 1) r
theorem Own.many {b : Nat} {t : TypeId} : ∀ (vs : List Value) (o : Nat) {w : World} {cs : Array Value}, Own w b cs t → Own (w.setCells b o vs) b (setMany cs o vs) t
  | [], _, _, _, h => h
  | v :: r, o, _, _, h => Own.many r (o + 1) (h.set o v)
theorem Only.many {b : Nat} : ∀ (vs : List Value) (o : Nat) (w : World), Only b w (w.setCells b o vs)
  | [], _, w => Only.refl b w
  | v :: r, o, w => (Only.set b o w v).trans (Only.many r (o + 1) _)
theorem many_mates (n : Int) (ms0 ms : List Int) (h0 : ms0.length = 16) (h : ms.length = 16) : setMany (dcells n ms0) 1 (mcells ms).toList = dcells n ms := by
  obtain ⟨a0, a1, a2, a3, a4, a5, a6, a7, a8, a9, b0, b1, b2, b3, b4, b5, rfl⟩ := list16 ms h
  obtain ⟨c0, c1, c2, c3, c4, c5, c6, c7, c8, c9, e0, e1, e2, e3, e4, e5, rfl⟩ := list16 ms0 h0
  kernel_rfl
/-- The mates of a diagram are stored, as a whole. -/
theorem wpList_store_mates {P : Program} {ops : Array Oper} {rest : List Oper} {o : Oper} {a : Act} {w : World} {Q : Exit → Act → World → Prop} (hgd : o.guard = none) (ty : TypeId) (x y : Operand) (ho : o.op = .store ty x y)
    (g : Nat) (n : Int) (ms ms0 : List Int) (hx : a.eval x = .pointer (some ⟨g, 1, none⟩)) (hy : a.eval y = .agg (mcells ms))
    (t : TypeId) (hg : Own w g (dcells n ms0) t) (h0 : ms0.length = 16) (h1 : ms.length = 16) (hi : (P.info? ty).map (·.size) = some (mcells ms).size)
    (h : ∀ w', Own w' g (dcells n ms) t → Only g w w' → wpList P ops Q rest (a.put o.dst undef) w') : wpList P ops Q (o :: rest) a w := by
  have hth : w.there g 1 (mcells ms).size := by
    intro j hj
    rw [m16 ms h1] at hj
    refine ⟨?_, hg.free _⟩
    rw [hg.cell, dcells_get n ms0 j (by omega)]
    rfl
  refine wpList_store_mid hgd ty x y ho g 1 (mcells ms) hx hy hth hi (one24 ms) (h _ ?_ (Only.many _ _ _))
  have := hg.many (mcells ms).toList 1
  rwa [many_mates n ms0 ms h0 h1] at this
end Go.Proofs.Ythjgcakpimbcbaa
