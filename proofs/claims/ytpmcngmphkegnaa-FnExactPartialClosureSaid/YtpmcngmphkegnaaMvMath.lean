/- Plain mathematics: lines that are joined at moved points, and mates that are set at moved points, are the same. -/
import Derived.Test.YtpmcngmphkegnaaMoveL
namespace Go.Proofs.Ytpmcngmphkegnaa
/-- Each point's mate is set, of the first k points. -/
def stL (f : Int → Int) (ms : List Int) : Nat → List Int
  | 0 => zeros
  | k + 1 => (stL f ms k).set (f k).toNat (f (mate ms k))
theorem stL_len (f : Int → Int) (ms : List Int) (k : Nat) : (stL f ms k).length = 16 := by
  induction k with
  | zero => rfl
  | succ k ih => simp [stL, ih]
theorem mv_get {n : Int} {ms : List Int} {f : Int → Int} (hb : Bytes ms) (hd : IsS n ms) (hf : ∀ i, 0 ≤ i → i < 2 * n → 0 ≤ f i ∧ f i < 16) (hi : ∀ i j, 0 ≤ i → i < 2 * n → 0 ≤ j → j < 2 * n → f i = f j → i = j) (k : Nat) (hk : (k : Int) ≤ 2 * n) (i : Int) (h0 : 0 ≤ i) (h2 : i < 2 * n) (h : i < k ∨ mate ms i < k) : (mvL f ms zeros k).getD (f i).toNat 0 = f (mate ms i) := by
  induction k with
  | zero => have := mate_lt hb hd i h0 h2; omega
  | succ k ih =>
    have hk' : (k : Int) < 2 * n := by omega
    have m1 := mate_lt hb hd k (by omega) hk'
    have m2 := mate_lt hb hd i h0 h2
    have v1 := mate_inv hd k (by omega) hk'
    have v2 := mate_inv hd i h0 h2
    have b1 := hf k (by omega) hk'
    have b2 := hf (mate ms k) m1.1 m1.2
    have b3 := hf i h0 h2
    rw [mvL, joinL_get _ (mvL_len f ms zeros zlen k) _ _ b1 b2, show (((f i).toNat : Nat) : Int) = f i by omega]
    by_cases e1 : f i = f (mate ms k)
    · have := hi i (mate ms k) h0 h2 m1.1 m1.2 e1
      rw [if_pos e1, this, v1]
    · rw [if_neg e1]
      by_cases e2 : f i = f k
      · have := hi i k h0 h2 (by omega) hk' e2
        rw [if_pos e2, this]
      · rw [if_neg e2]
        have x1 : i ≠ k := fun e => e2 (by rw [e])
        have x2 : mate ms i ≠ k := fun e => e1 (by rw [← e, v2])
        exact ih (by omega) (by omega)
theorem mv_out {n : Int} {ms : List Int} {f : Int → Int} (hb : Bytes ms) (hd : IsS n ms) (hf : ∀ i, 0 ≤ i → i < 2 * n → 0 ≤ f i ∧ f i < 16) (k : Nat) (hk : (k : Int) ≤ 2 * n) (j : Nat) (h : ∀ i, 0 ≤ i → i < 2 * n → f i ≠ j) : (mvL f ms zeros k).getD j 0 = 0 := by
  induction k with
  | zero => exact zeros_get j
  | succ k ih =>
    have hk' : (k : Int) < 2 * n := by omega
    have m1 := mate_lt hb hd k (by omega) hk'
    rw [mvL, joinL_get _ (mvL_len f ms zeros zlen k) _ _ (hf k (by omega) hk') (hf _ m1.1 m1.2), if_neg (fun e => h _ m1.1 m1.2 e.symm), if_neg (fun e => h k (by omega) hk' e.symm)]
    exact ih (by omega)
theorem st_get {n : Int} {ms : List Int} {f : Int → Int} (hf : ∀ i, 0 ≤ i → i < 2 * n → 0 ≤ f i ∧ f i < 16) (hi : ∀ i j, 0 ≤ i → i < 2 * n → 0 ≤ j → j < 2 * n → f i = f j → i = j) (k : Nat) (hk : (k : Int) ≤ 2 * n) (i : Int) (h0 : 0 ≤ i) (h2 : i < k) : (stL f ms k).getD (f i).toNat 0 = f (mate ms i) := by
  induction k with
  | zero => omega
  | succ k ih =>
    have hk' : (k : Int) < 2 * n := by omega
    have b1 := hf k (by omega) hk'
    have b3 := hf i h0 (by omega)
    rw [stL, set_get _ (stL_len f ms k) _ (by omega)]
    by_cases e : (f i).toNat = (f k).toNat
    · have := hi i k h0 (by omega) (by omega) hk' (by omega)
      rw [if_pos e, this]
    · rw [if_neg e]
      exact ih (by omega) (by
        have : i ≠ k := fun x => e (by rw [x])
        omega)
theorem st_out {n : Int} {ms : List Int} {f : Int → Int} (hf : ∀ i, 0 ≤ i → i < 2 * n → 0 ≤ f i ∧ f i < 16) (k : Nat) (hk : (k : Int) ≤ 2 * n) (j : Nat) (h : ∀ i, 0 ≤ i → i < 2 * n → f i ≠ j) : (stL f ms k).getD j 0 = 0 := by
  induction k with
  | zero => exact zeros_get j
  | succ k ih =>
    have hk' : (k : Int) < 2 * n := by omega
    have b1 := hf k (by omega) hk'
    rw [stL, set_get _ (stL_len f ms k) _ (by omega), if_neg (fun e => h k (by omega) hk' (by omega))]
    exact ih (by omega)
theorem mv_eq_st {n : Int} {ms : List Int} {f : Int → Int} (hb : Bytes ms) (hd : IsS n ms) (hf : ∀ i, 0 ≤ i → i < 2 * n → 0 ≤ f i ∧ f i < 16) (hi : ∀ i j, 0 ≤ i → i < 2 * n → 0 ≤ j → j < 2 * n → f i = f j → i = j) : mvL f ms zeros (2 * n).toNat = stL f ms (2 * n).toNat := by
  have hn := hd.1
  apply List.ext_getElem (by rw [mvL_len f ms zeros zlen, stL_len])
  intro j h1 h2
  have g1 : (mvL f ms zeros (2 * n).toNat).getD j 0 = (mvL f ms zeros (2 * n).toNat)[j] := by rw [List.getD_eq_getElem?_getD, List.getElem?_eq_getElem h1]; rfl
  have g2 : (stL f ms (2 * n).toNat).getD j 0 = (stL f ms (2 * n).toNat)[j] := by rw [List.getD_eq_getElem?_getD, List.getElem?_eq_getElem h2]; rfl
  rw [← g1, ← g2]
  by_cases h : ∃ i, (0 ≤ i ∧ i < 2 * n) ∧ f i = j
  · obtain ⟨i, ⟨h0, h3⟩, e⟩ := h
    have := mv_get hb hd hf hi (2 * n).toNat (by omega) i h0 h3 (.inl (by omega))
    have t := st_get (ms := ms) hf hi (2 * n).toNat (by omega) i h0 (by omega)
    rw [show (f i).toNat = j by omega] at this t
    rw [this, t]
  · have h' : ∀ i, 0 ≤ i → i < 2 * n → f i ≠ j := fun i a b e => h ⟨i, ⟨a, b⟩, e⟩
    rw [mv_out hb hd hf _ (by omega) j h', st_out hf _ (by omega) j h']
end Go.Proofs.Ytpmcngmphkegnaa
