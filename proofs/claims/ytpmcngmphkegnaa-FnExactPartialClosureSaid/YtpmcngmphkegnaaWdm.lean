/- A line at the right of a diagram: plain; the program's union with a line. -/
import Derived.Test.YtpmcngmphkegnaaFle
import Derived.Test.YtpmcngmphkegnaaUnI
namespace Go.Proofs.Ytpmcngmphkegnaa
open Go.RowKit Go.Lib
set_option linter.unusedVariables false
set_option linter.unusedSimpArgs false
/-- The mates of a diagram with a line at its right. -/
def wdL (n : Int) (ms : List Int) : List Int := ((stL (un1 n 1) ms (2 * n).toNat).set n.toNat (2 * n + 1)).set (2 * n + 1).toNat n
theorem wdL_len (n : Int) (ms : List Int) : (wdL n ms).length = 16 := by simp [wdL, stL_len]
theorem wd_get {n : Int} (h1 : 1 ≤ n) (h7 : n ≤ 7) (ms : List Int) (j : Nat) : (wdL n ms).getD j 0 = if (j : Int) = 2 * n + 1 then n else if (j : Int) = n then 2 * n + 1 else (stL (un1 n 1) ms (2 * n).toNat).getD j 0 := by
  unfold wdL
  rw [set_get _ (by simp [stL_len]) _ (by omega), set_get _ (stL_len _ _ _) _ (by omega)]
  by_cases e : (j : Int) = 2 * n + 1
  · rw [if_pos (by omega), if_pos e]
  · rw [if_neg (by omega), if_neg e]
    by_cases e2 : (j : Int) = n
    · rw [if_pos (by omega), if_pos e2]
    · rw [if_neg (by omega), if_neg e2]
theorem un1_in {n : Int} (h1 : 1 ≤ n) (h7 : n ≤ 7) (i : Int) (h0 : 0 ≤ i) (h2 : i < 2 * n) : 0 ≤ un1 n 1 i ∧ un1 n 1 i < 16 := by unfold un1; split <;> omega
theorem un1_inj (n i j : Int) (h : un1 n 1 i = un1 n 1 j) : i = j := by unfold un1 at h; split at h <;> split at h <;> omega
theorem wd_new {n : Int} (h1 : 1 ≤ n) (h7 : n ≤ 7) (ms : List Int) : mate (wdL n ms) n = 2 * n + 1 ∧ mate (wdL n ms) (2 * n + 1) = n := by
  unfold mate
  rw [wd_get h1 h7, wd_get h1 h7]
  refine ⟨?_, ?_⟩
  · rw [if_neg (by omega), if_pos (by omega)]
  · rw [if_pos (by omega)]
theorem wd_old {n : Int} (h1 : 1 ≤ n) (h7 : n ≤ 7) (ms : List Int) {i : Int} (h0 : 0 ≤ i) (h2 : i < 2 * n) : mate (wdL n ms) (un1 n 1 i) = un1 n 1 (mate ms i) := by
  have hb := un1_in h1 h7 i h0 h2
  have hx : un1 n 1 i ≠ n ∧ un1 n 1 i ≠ 2 * n + 1 := by unfold un1; split <;> omega
  have hs := st_get (n := n) (ms := ms) (f := un1 n 1) (fun i a b => un1_in h1 h7 i a b) (fun i j _ _ _ _ h => un1_inj n i j h) (2 * n).toNat (by omega) i h0 (by omega)
  unfold mate at hs ⊢
  rw [wd_get h1 h7, if_neg (by omega), if_neg (by omega), hs]
theorem wd_cases {n p : Int} (h1 : 1 ≤ n) (h0 : 0 ≤ p) (h2 : p < 2 * (n + 1)) : p = n ∨ p = 2 * n + 1 ∨ ∃ i, 0 ≤ i ∧ i < 2 * n ∧ p = un1 n 1 i := by
  by_cases a : p = n
  · exact .inl a
  · by_cases b : p = 2 * n + 1
    · exact .inr (.inl b)
    · refine .inr (.inr ?_)
      by_cases c : p < n
      · exact ⟨p, by omega, by omega, by unfold un1; rw [if_pos c]⟩
      · exact ⟨p - 1, by omega, by omega, by unfold un1; rw [if_neg (by omega)]; omega⟩
theorem pl_un1 {n i : Int} (h0 : 0 ≤ i) (h2 : i < 2 * n) : pl (n + 1) (un1 n 1 i) = if pl n i < n then pl n i else pl n i + 2 := by
  unfold un1 pl
  by_cases c : i < n
  · rw [if_pos c, if_pos c, if_pos (by omega), if_pos c]
  · rw [if_neg c, if_neg c, if_neg (by omega), if_neg (by omega)]
    omega
theorem pl_n {n : Int} (h1 : 1 ≤ n) : pl (n + 1) n = n ∧ pl (n + 1) (2 * n + 1) = n + 1 := by
  unfold pl
  refine ⟨?_, ?_⟩
  · rw [if_pos (by omega)]
  · rw [if_neg (by omega)]; omega
theorem wdL_vd {n : Int} {ms : List Int} (h7 : n ≤ 7) (h : VD (n, ms)) : VD (n + 1, wdL n ms) := by
  have hIs := (isD_iff n ms h.2.1 h.2.2).1 h.1
  have hn : 1 ≤ n ∧ n ≤ 8 := hIs.1
  have h1 := hn.1
  have M0 : Mt n (mate ms) := mt_of h.2.2 hIs
  have C0 : NC n (mate ms) := nc_of h.2.2 hIs
  obtain ⟨wn, wn2⟩ := wd_new h1 h7 ms
  have hz : ∀ j : Nat, 2 * (n + 1) ≤ (j : Int) → (wdL n ms).getD j 0 = 0 := fun j hj => by
    rw [wd_get h1 h7, if_neg (by omega), if_neg (by omega)]
    exact st_out (n := n) (f := un1 n 1) (fun i a b => un1_in h1 h7 i a b) (2 * n).toNat (by omega) j (fun i i0 i2 e => by
      unfold un1 at e
      split at e <;> omega)
  have ub : ∀ i, 0 ≤ i → i < 2 * n → 0 ≤ un1 n 1 i ∧ un1 n 1 i < 2 * (n + 1) ∧ un1 n 1 i ≠ n ∧ un1 n 1 i ≠ 2 * n + 1 := fun i a b => by unfold un1; split <;> omega
  have M : Mt (n + 1) (mate (wdL n ms)) := {
    lt := fun q h0 h2 => by
      rcases wd_cases h1 h0 h2 with rfl | rfl | ⟨i, i0, i2, rfl⟩
      · rw [wn]; omega
      · rw [wn2]; omega
      · rw [wd_old h1 h7 ms i0 i2]
        have b := M0.lt i i0 i2
        have c := ub _ b.1 b.2
        exact ⟨c.1, c.2.1⟩
    inv := fun q h0 h2 => by
      rcases wd_cases h1 h0 h2 with rfl | rfl | ⟨i, i0, i2, rfl⟩
      · rw [wn, wn2]
      · rw [wn2, wn]
      · have b := M0.lt i i0 i2
        rw [wd_old h1 h7 ms i0 i2, wd_old h1 h7 ms b.1 b.2, M0.inv i i0 i2]
    ne := fun q h0 h2 e => by
      rcases wd_cases h1 h0 h2 with rfl | rfl | ⟨i, i0, i2, rfl⟩
      · rw [wn] at e; omega
      · rw [wn2] at e; omega
      · rw [wd_old h1 h7 ms i0 i2] at e
        exact M0.ne i i0 i2 (un1_inj n _ _ e) }
  have C : NC (n + 1) (mate (wdL n ms)) := by
    obtain ⟨pn, pn2⟩ := pl_n (n := n) h1
    have pb : ∀ i, 0 ≤ i → i < 2 * n → 0 ≤ pl n i ∧ pl n i < 2 * n := fun i a b => by unfold pl; split <;> omega
    intro a u a0 a2 u0 u2 ⟨x, y, z⟩
    rcases wd_cases h1 a0 a2 with rfl | rfl | ⟨i, i0, i2, rfl⟩
    · rw [wn, pn2] at y z
      rw [pn] at x
      omega
    · rw [wn2, pn] at y z
      rw [pn2] at x
      omega
    · have bi := M0.lt i i0 i2
      rw [wd_old h1 h7 ms i0 i2] at y z
      have e1 := pl_un1 (n := n) i0 i2
      have e2 := pl_un1 (n := n) bi.1 bi.2
      have p1 := pb i i0 i2
      have p2 := pb _ bi.1 bi.2
      rw [e1] at x
      rw [e2] at y z
      rcases wd_cases h1 u0 u2 with rfl | rfl | ⟨k, k0, k2, rfl⟩
      · rw [pn] at x y
        rw [wn, pn2] at z
        split at x <;> split at y <;> split at z <;> omega
      · rw [pn2] at x y
        rw [wn2, pn] at z
        split at x <;> split at y <;> split at z <;> omega
      · have bk := M0.lt k k0 k2
        rw [wd_old h1 h7 ms k0 k2] at z
        have e3 := pl_un1 (n := n) k0 k2
        have e4 := pl_un1 (n := n) bk.1 bk.2
        rw [e3] at x y
        rw [e4] at z
        refine C0 i k i0 i2 k0 k2 ⟨?_, ?_, ?_⟩
        · split at x <;> split at x <;> omega
        · split at y <;> split at y <;> omega
        · split at z <;> split at z <;> omega
  have hb : Bytes (wdL n ms) := by
    intro x hx
    obtain ⟨j, hj, rfl⟩ := List.getElem_of_mem hx
    have g : (wdL n ms).getD j 0 = (wdL n ms)[j] := by rw [List.getD_eq_getElem?_getD, List.getElem?_eq_getElem hj]; rfl
    rw [← g]
    by_cases c : 2 * (n + 1) ≤ (j : Int)
    · rw [hz j c]; omega
    · have b := M.lt (j : Int) (by omega) (by omega)
      unfold mate at b
      rw [Int.toNat_natCast] at b
      omega
  exact ⟨(isD_iff (n + 1) _ (wdL_len n ms) hb).2 (isS_mk (by omega) (by omega) hz M C), wdL_len n ms, hb⟩
theorem list_ext16 {a b : List Int} (ha : a.length = 16) (hb : b.length = 16) (h : ∀ j : Nat, a.getD j 0 = b.getD j 0) : a = b := by
  apply List.ext_getElem (by rw [ha, hb])
  intro j h1 h2
  have := h j
  rw [List.getD_eq_getElem?_getD, List.getD_eq_getElem?_getD, List.getElem?_eq_getElem h1, List.getElem?_eq_getElem h2] at this
  exact this
theorem unL_wd {n : Int} {ms : List Int} (h7 : n ≤ 7) (h : VD (n, ms)) : unL n 1 ms (oneL 1 1) = wdL n ms := by
  have hIs := (isD_iff n ms h.2.1 h.2.2).1 h.1
  have hn : 1 ≤ n ∧ n ≤ 8 := hIs.1
  have h1 := hn.1
  have e := mv_eq_st (f := un1 n 1) h.2.2 hIs (fun i a b => un1_in h1 h7 i a b) (fun i j _ _ _ _ h => un1_inj n i j h)
  have m0 : mate (oneL 1 1) 0 = 1 := by decide
  have m1 : mate (oneL 1 1) 1 = 0 := by decide
  have u0 : un2 n 1 0 = n := by unfold un2; rw [if_pos (by omega)]; omega
  have u1 : un2 n 1 1 = 2 * n + 1 := by unfold un2; rw [if_neg (by omega)]; omega
  unfold unL
  rw [e]
  show joinL (joinL (stL (un1 n 1) ms (2 * n).toNat) (un2 n 1 ((0 : Nat) : Int)) (un2 n 1 (mate (oneL 1 1) ((0 : Nat) : Int)))) (un2 n 1 ((1 : Nat) : Int)) (un2 n 1 (mate (oneL 1 1) ((1 : Nat) : Int))) = _
  rw [show ((0 : Nat) : Int) = 0 from rfl, show ((1 : Nat) : Int) = 1 from rfl, m0, m1, u0, u1]
  have hl := stL_len (un1 n 1) ms (2 * n).toNat
  refine list_ext16 (by simp [joinL, hl]) (wdL_len n ms) (fun j => ?_)
  rw [wd_get h1 h7]
  unfold joinL
  rw [set_get _ (by simp [hl]) _ (by omega), set_get _ (by simp [hl]) _ (by omega), set_get _ (by simp [hl]) _ (by omega), set_get _ hl _ (by omega)]
  by_cases a : (j : Int) = n
  · rw [if_pos (by omega), if_neg (by omega), if_pos a]
  · by_cases b : (j : Int) = 2 * n + 1
    · rw [if_neg (by omega), if_pos (by omega), if_pos b]
    · rw [if_neg (by omega), if_neg (by omega), if_neg (by omega), if_neg (by omega), if_neg b, if_neg a]
end Go.Proofs.Ytpmcngmphkegnaa
