/- A region that draws its order, by what each of its operations leaves behind in its own slot: as wp_region_facts, but what the others left is kept by two general laws and not by cases. -/
import Derived.Test.YtbibmncepjmgcaaKc
namespace Go.Proofs.Ytbibmncepjmgcaa
open Go.RowKit
section
variable {P : Program}
theorem sl_put (a : Act) (s t : Nat) (v : Value) (h : t ≠ s) : sl (a.put (some s) v) t = sl a t := by
  unfold sl Act.put
  simp only [Array.toList_setIfInBounds, List.getD_eq_getElem?_getD]
  rw [List.getElem?_set_ne (fun e => h e.symm)]
theorem wp_region_phi {id : Nat} {Q : Exit → Act → World → Prop} {a : Act} {w : World} {l : List Oper} (hm : P.follows .mixedOrders = true) (hah : aheadB l 0 = true) (sN : Nat → Nat) (hinj : ∀ i j, sN i = sN j → i = j) (G : Act → World → Prop) (F : Nat → Value → World → Prop)
    (hmono : ∀ j v w w', Below w.heap.size w w' → F j v w → F j v w') (h0 : G a { w with drawn := w.drawn + 1 })
    (hs : AllOps (fun i o => ∀ a w, G a w → (∀ j, needs o j = true → F j (sl a (sN j)) w) → ∀ K : Act → World → Prop, (∀ a' w', G a' w' → F i (sl a' (sN i)) w' → (∃ v, a' = a.put (some (sN i)) v) → Below w.heap.size w w' → K a' w') → wpList P l.toArray (only K) [o] a w) 0 l)
    (he : ∀ a w, G a w → (∀ i, i < l.length → F i (sl a (sN i)) w) → Q .normal a w) : (Code.region id l.toArray true).wp P Q a w := by
  refine wp_region_facts hm hah G (fun j a w => F j (sl a (sN j)) w) h0 ?_ he
  have key : ∀ (l' : List Oper) (k : Nat), AllOps (fun i o => ∀ a w, G a w → (∀ j, needs o j = true → F j (sl a (sN j)) w) → ∀ K : Act → World → Prop, (∀ a' w', G a' w' → F i (sl a' (sN i)) w' → (∃ v, a' = a.put (some (sN i)) v) → Below w.heap.size w w' → K a' w') → wpList P l.toArray (only K) [o] a w) k l' →
      AllOps (fun i o => ∀ a w, G a w → (∀ j, needs o j = true → F j (sl a (sN j)) w) → ∀ K : Act → World → Prop, (∀ a' w', G a' w' → F i (sl a' (sN i)) w' → (∀ j, j ≠ i → waits l.toArray j i = false → F j (sl a (sN j)) w → F j (sl a' (sN j)) w') → K a' w') → wpList P l.toArray (only K) [o] a w) k l' := by
    intro l'
    induction l' with
    | nil => intro k _; trivial
    | cons o l' ih =>
      intro k h
      refine ⟨fun a w hG hd K hK => h.1 a w hG hd K fun a' w' g1 g2 g3 g4 => hK a' w' g1 g2 fun j hj _ hF => ?_, ih _ h.2⟩
      obtain ⟨v, rfl⟩ := g3
      rw [sl_put _ _ _ _ (fun e => hj (hinj _ _ e))]
      exact hmono _ _ _ _ g4 hF
  exact key l 0 hs
end
end Go.Proofs.Ytbibmncepjmgcaa
