/- Sums of terms: the order of diagrams by their texts. -/
import Derived.Test.YtdmgmhjclagnpaaElI
import Derived.Test.YtdmgmhjclagnpaaPutG
import Derived.Test.YtdmgmhjclagnpaaDiaB
namespace Go.Proofs.Ytdmgmhjclagnpaa
open Go.RowKit
set_option linter.unusedVariables false
theorem bl_irr : ∀ x : List UInt8, Op.bytesLess x x = false
  | [] => rfl
  | a :: x => by rw [Op.bytesLess]; simp [bl_irr x]
theorem bl_tr : ∀ x y z : List UInt8, Op.bytesLess x y = true → Op.bytesLess y z = true → Op.bytesLess x z = true
  | [], [], _, h, _ => by simp [Op.bytesLess] at h
  | [], _ :: _, [], _, h => by simp [Op.bytesLess] at h
  | [], _ :: _, _ :: _, _, _ => by simp [Op.bytesLess]
  | _ :: _, [], _, h, _ => by simp [Op.bytesLess] at h
  | _ :: _, _ :: _, [], _, h => by simp [Op.bytesLess] at h
  | a :: x, b :: y, c :: z, h, h' => by
    simp only [Op.bytesLess, Bool.or_eq_true, Bool.and_eq_true, decide_eq_true_eq, beq_iff_eq] at h h' ⊢
    rcases h with h | ⟨rfl, h⟩
    · rcases h' with h' | ⟨rfl, h'⟩
      · exact .inl (UInt8.lt_trans h h')
      · exact .inl h
    · rcases h' with h' | ⟨rfl, h'⟩
      · exact .inl h'
      · exact .inr ⟨rfl, bl_tr x y z h h'⟩
theorem bl_tot : ∀ x y : List UInt8, Op.bytesLess x y = false → Op.bytesLess y x = false → x = y
  | [], [], _, _ => rfl
  | [], _ :: _, h, _ => by simp [Op.bytesLess] at h
  | _ :: _, [], _, h => by simp [Op.bytesLess] at h
  | a :: x, b :: y, h, h' => by
    simp only [Op.bytesLess, Bool.or_eq_false_iff, Bool.and_eq_false_iff, decide_eq_false_iff_not, beq_eq_false_iff_ne] at h h'
    have e : a = b := by
      have h1 := UInt8.not_lt.1 h.1
      have h2 := UInt8.not_lt.1 h'.1
      exact UInt8.le_antisymm h2 h1
    subst e
    have h3 : Op.bytesLess x y = false := by rcases h.2 with q | q; exact absurd rfl q; exact q
    have h4 : Op.bytesLess y x = false := by rcases h'.2 with q | q; exact absurd rfl q; exact q
    rw [bl_tot x y h3 h4]
/-- Diagrams: sizes and mates. -/
abbrev Dg := Int × List Int
def VD (d : Dg) : Prop := isD d.1 d.2 = true ∧ d.2.length = 16 ∧ Bytes d.2
def ltD (x y : Dg) : Bool := Op.bytesLess (textS x.1 x.2).toList (textS y.1 y.2).toList
theorem linD : Lin Dg ltD VD where
  irr x _ := bl_irr _
  tr x y z _ _ _ := bl_tr _ _ _
  tot x y hx hy h1 h2 := by
    have e := bl_tot _ _ h1 h2
    have e2 : (textS x.1 x.2).data.toList = (textS y.1 y.2).data.toList := by
      have := e
      rw [ByteArray.toList_eq, ByteArray.toList_eq] at this; exact this
    have a := hx.1
    have b := hy.1
    unfold isD at a b
    rw [Bool.and_eq_true, decide_eq_true_iff, decide_eq_true_iff] at a b
    rw [e2, b.2] at a
    have := a.2
    injection this with this
    exact this.symm
def trmT : Trm Dg Tm where
  key t := (t.1, t.2.1)
  fc t := t.2.2
  mkt d k := (d.1, d.2, k)
  key_mk _ _ := rfl
  fc_mk _ _ := rfl
  mkt_key _ := rfl
/-- A sum of terms modulo p. -/
abbrev GoodT (p : Int) (ts : List Tm) : Prop := Good ltD VD trmT p ts
abbrev addT (p : Int) (d : Dg) (k : Int) (ts : List Tm) : List Tm := addL ltD trmT p d k ts
end Go.Proofs.Ytdmgmhjclagnpaa
