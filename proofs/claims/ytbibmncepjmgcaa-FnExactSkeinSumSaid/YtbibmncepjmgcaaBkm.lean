/- Brackets: plain. -/
import Derived.Test.YtbibmncepjmgcaaTr
import Derived.Test.YtbibmncepjmgcaaBrm
namespace Go.Proofs.Ytbibmncepjmgcaa
open Go.RowKit Go.Lib
set_option linter.unusedVariables false
set_option linter.unusedSimpArgs false
theorem cloL_pos (n : Int) (ms : List Int) : ∀ k : Nat, 1 ≤ k → 1 ≤ (cloL n ms k).2
  | 1, _ => by
    rw [cloL]
    have h : (cloL n ms 0).1.getD 0 true = false := by
      rw [cloL]; rfl
    rw [h]
    have := cloL_bd n ms 0
    simp; omega
  | k + 2, _ => by
    have ih := cloL_pos n ms (k + 1) (by omega)
    rw [cloL]
    split
    · exact ih
    · show 1 ≤ (cloL n ms (k + 1)).2 + 1
      omega
/-- A term's part of a bracket. -/
def bkT (p c : Int) (t : Tm) : Int := t.2.2 * pw p c (lpT t - 1)
def bkI (p c : Int) (ts : List Tm) : Nat → Int
  | 0 => 0
  | k + 1 => bkI p c ts k + bkT p c (ts.getD k zT)
def bkS (p c : Int) (ts : List Tm) : Nat → Int
  | 0 => 0
  | k + 1 => (bkS p c ts k + bkT p c (ts.getD k zT)) % p
theorem bk_same (p c : Int) (ts : List Tm) : ∀ k, bkI p c ts k % p = bkS p c ts k % p
  | 0 => rfl
  | k + 1 => by
    rw [bkI, bkS, Int.emod_emod, Int.add_emod, bk_same p c ts k, ← Int.add_emod]
theorem bkS_rng {p c : Int} (hp : 2 ≤ p) (ts : List Tm) : ∀ k, 0 ≤ bkS p c ts k ∧ bkS p c ts k < p
  | 0 => ⟨Int.le_refl _, by show (0 : Int) < p; omega⟩
  | k + 1 => ⟨Int.emod_nonneg _ (by omega), Int.emod_lt_of_pos _ (by omega)⟩
theorem bkT_rng {p c : Int} (hp : 2 ≤ p) (hp2 : p ≤ 97) (t : Tm) (h1 : 0 ≤ t.2.2) (h2 : t.2.2 < p) : 0 ≤ bkT p c t ∧ bkT p c t ≤ 9409 := by
  have r := pw_range p c hp (lpT t - 1)
  exact bnd_mul p _ _ 0 hp hp2 (by omega) h2 r.1 r.2
theorem bkI_rng {p c : Int} (hp : 2 ≤ p) (hp2 : p ≤ 97) (ts : List Tm) (h : ∀ j, j < ts.length → 0 ≤ (ts.getD j zT).2.2 ∧ (ts.getD j zT).2.2 < p) : ∀ k : Nat, k ≤ ts.length → 0 ≤ bkI p c ts k ∧ bkI p c ts k ≤ 9409 * (k : Int)
  | 0, _ => ⟨Int.le_refl _, Int.le_refl _⟩
  | k + 1, hk => by
    have a : 0 ≤ bkI p c ts k ∧ bkI p c ts k ≤ 9409 * (k : Int) := bkI_rng hp hp2 ts h k (by omega)
    have b := bkT_rng (c := c) hp hp2 (ts.getD k zT) (h k (by omega)).1 (h k (by omega)).2
    rw [bkI]; omega
/-- The bracket of an element. -/
def bkV (p c : Int) (ts : List Tm) : Int := bkS p c ts ts.length
theorem bkV_I {p c : Int} (hp : 2 ≤ p) (ts : List Tm) : bkI p c ts ts.length % p = bkV p c ts := by
  rw [bk_same]
  have := bkS_rng (c := c) hp ts ts.length
  exact Int.emod_eq_of_lt this.1 this.2
theorem okE_term {p n : Int} {L : List Tm} (h : OkE p n L) (j : Nat) (hj : j < L.length) : (L.getD j zT).1 = n ∧ VD (n, (L.getD j zT).2.1) ∧ 0 ≤ (L.getD j zT).2.2 ∧ (L.getD j zT).2.2 < p := by
  have hm : L.getD j zT ∈ L := by rw [List.getD_eq_getElem?_getD, List.getElem?_eq_getElem hj]; exact List.getElem_mem hj
  have h1 := h.1.rng _ hm
  have h2 : 1 ≤ (L.getD j zT).2.2 ∧ (L.getD j zT).2.2 < p := h1
  have h3 : VD ((L.getD j zT).1, (L.getD j zT).2.1) := h.1.val _ hm
  have h4 := h.2.1 _ hm
  rw [h4] at h3
  exact ⟨h4, h3, by omega, h2.2⟩
theorem lpT_pos {n : Int} {ms : List Int} {k : Int} (h : VD (n, ms)) : ∃ lp : Nat, (cloL n ms (2 * n).toNat).2 = (lp : Int) + 1 ∧ lp ≤ 1000 ∧ lpT (n, ms, k) - 1 = lp := by
  have hs := VD.size h
  simp only at hs
  have h1 := cloL_pos n ms (2 * n).toNat (by omega)
  have h2 := cloL_bd n ms (2 * n).toNat
  refine ⟨((cloL n ms (2 * n).toNat).2 - 1).toNat, by omega, by omega, ?_⟩
  show (cloL n ms (2 * n).toNat).2.toNat - 1 = _
  omega
end Go.Proofs.Ytbibmncepjmgcaa
