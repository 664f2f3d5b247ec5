/- The partial closure of a diagram: plain. -/
import Derived.Test.YtpmcngmphkegnaaWdm
namespace Go.Proofs.Ytpmcngmphkegnaa
open Go.RowKit Go.Lib
set_option linter.unusedVariables false
set_option linter.unusedSimpArgs false
set_option linter.unusedSectionVars false
/-- Where points go when the last ones are left out, and back. -/
def lfC (n x : Int) : Int := if x < n then x else x - 1
def emC (n q : Int) : Int := if q < n - 1 then q else q + 1
/-- The points that stay. -/
def alC (n x : Int) : Prop := 0 ≤ x ∧ x < 2 * n ∧ x ≠ n - 1 ∧ x ≠ 2 * n - 1
instance (n x : Int) : Decidable (alC n x) := by unfold alC; infer_instance
theorem em_al {n q : Int} (h2 : 2 ≤ n) (a : 0 ≤ q) (b : q < 2 * (n - 1)) : alC n (emC n q) ∧ lfC n (emC n q) = q := by
  unfold alC emC lfC; split <;> split <;> omega
theorem lf_em {n x : Int} (h2 : 2 ≤ n) (h : alC n x) : 0 ≤ lfC n x ∧ lfC n x < 2 * (n - 1) ∧ emC n (lfC n x) = x := by
  unfold alC at h; unfold emC lfC; split <;> split <;> omega
/-- The mates when the last points are joined outside. -/
def djC (n : Int) (d : Int → Int) (x : Int) : Int := if d (n - 1) = 2 * n - 1 then d x else if x = d (n - 1) then d (2 * n - 1) else if x = d (2 * n - 1) then d (n - 1) else d x
section
variable {n : Int} {d : Int → Int} (h2 : 2 ≤ n) (M : Mt n d)
include h2 M
theorem ends_al (hl : d (n - 1) ≠ 2 * n - 1) : alC n (d (n - 1)) ∧ alC n (d (2 * n - 1)) ∧ d (n - 1) ≠ d (2 * n - 1) := by
  have a := M.lt (n - 1) (by omega) (by omega)
  have b := M.lt (2 * n - 1) (by omega) (by omega)
  have ai := M.inv (n - 1) (by omega) (by omega)
  have bi := M.inv (2 * n - 1) (by omega) (by omega)
  have an := M.ne (n - 1) (by omega) (by omega)
  have bn := M.ne (2 * n - 1) (by omega) (by omega)
  refine ⟨⟨a.1, a.2, an, hl⟩, ⟨b.1, b.2, fun e => ?_, bn⟩, fun e => ?_⟩
  · rw [e] at bi; exact hl bi
  · rw [e, bi] at ai; omega
theorem stay_al {x : Int} (hx : alC n x) (hl : d (n - 1) = 2 * n - 1 ∨ (x ≠ d (n - 1) ∧ x ≠ d (2 * n - 1))) : alC n (d x) := by
  have b := M.lt x hx.1 hx.2.1
  have i := M.inv x hx.1 hx.2.1
  have hx3 := hx.2.2.1
  have hx4 := hx.2.2.2
  refine ⟨b.1, b.2, fun e => ?_, fun e => ?_⟩
  · rw [e] at i
    rcases hl with h | ⟨h, h'⟩
    · rw [h] at i; exact hx4 i.symm
    · exact h i.symm
  · rw [e] at i
    rcases hl with h | ⟨h, h'⟩
    · have := M.inv (n - 1) (by omega) (by omega)
      rw [h] at this
      exact hx3 (by rw [← i, this])
    · exact h' i.symm
theorem dj_al {x : Int} (hx : alC n x) : alC n (djC n d x) := by
  unfold djC
  by_cases hl : d (n - 1) = 2 * n - 1
  · rw [if_pos hl]; exact stay_al h2 M hx (.inl hl)
  · obtain ⟨ea, eb, en⟩ := ends_al h2 M hl
    rw [if_neg hl]
    by_cases c : x = d (n - 1)
    · rw [if_pos c]; exact eb
    · rw [if_neg c]
      by_cases c2 : x = d (2 * n - 1)
      · rw [if_pos c2]; exact ea
      · rw [if_neg c2]; exact stay_al h2 M hx (.inr ⟨c, c2⟩)
theorem dj_inv {x : Int} (hx : alC n x) : djC n d (djC n d x) = x := by
  have i := M.inv x hx.1 hx.2.1
  unfold djC
  by_cases hl : d (n - 1) = 2 * n - 1
  · rw [if_pos hl, if_pos hl]; exact i
  · obtain ⟨ea, eb, en⟩ := ends_al h2 M hl
    rw [if_neg hl, if_neg hl]
    by_cases c : x = d (n - 1)
    · rw [if_pos c, if_neg (fun e => en e.symm), if_pos rfl, c]
    · rw [if_neg c]
      by_cases c2 : x = d (2 * n - 1)
      · rw [if_pos c2, if_pos rfl, c2]
      · have s := stay_al h2 M hx (.inr ⟨c, c2⟩)
        rw [if_neg c2, if_neg (fun e => ?_), if_neg (fun e => ?_), i]
        · rw [e, M.inv (2 * n - 1) (by omega) (by omega)] at i
          have := hx.2.2.2
          omega
        · rw [e, M.inv (n - 1) (by omega) (by omega)] at i
          have := hx.2.2.1
          omega
theorem dj_ne {x : Int} (hx : alC n x) : djC n d x ≠ x := by
  have i := M.ne x hx.1 hx.2.1
  unfold djC
  by_cases hl : d (n - 1) = 2 * n - 1
  · rw [if_pos hl]; exact i
  · obtain ⟨ea, eb, en⟩ := ends_al h2 M hl
    rw [if_neg hl]
    by_cases c : x = d (n - 1)
    · rw [if_pos c, c]; exact fun e => en e.symm
    · rw [if_neg c]
      by_cases c2 : x = d (2 * n - 1)
      · rw [if_pos c2, c2]; exact en
      · rw [if_neg c2]; exact i
theorem pl_al {x : Int} (hx : alC n x) : pl n x ≠ n - 1 ∧ pl n x ≠ n ∧ pl (n - 1) (lfC n x) = if pl n x < n - 1 then pl n x else pl n x - 2 := by
  unfold alC at hx
  unfold pl lfC
  by_cases c : x < n
  · rw [if_pos c, if_pos c, if_pos (by omega), if_pos (by omega)]
    omega
  · rw [if_neg c, if_neg c, if_neg (by omega), if_neg (by omega)]
    omega
theorem ib_mid {x : Int} (hx : alC n x) : ib (pl n (n - 1) < pl n x) = ib (pl n (2 * n - 1) < pl n x) ∧ ib (pl n x < pl n (n - 1)) = ib (pl n x < pl n (2 * n - 1)) := by
  have h := pl_al h2 M hx
  have e1 : pl n (n - 1) = n - 1 := by unfold pl; rw [if_pos (by omega)]
  have e2 : pl n (2 * n - 1) = n := by unfold pl; rw [if_neg (by omega)]; omega
  rw [e1, e2]
  unfold ib
  refine ⟨?_, ?_⟩
  · by_cases c : n < pl n x
    · rw [if_pos (by omega), if_pos c]
    · rw [if_neg (by omega), if_neg c]
  · by_cases c : pl n x < n
    · rw [if_pos (by omega), if_pos c]
    · rw [if_neg (by omega), if_neg c]
/-- Lines that are kept, or joined outside, cut no others. -/
theorem dj_par (C : NC n d) {x y : Int} (hx : alC n x) (hy : alC n y) (c1 : y ≠ x) (c2 : y ≠ djC n d x) :
    (ib (pl n x < pl n y) + ib (pl n (djC n d x) < pl n y) - ib (pl n x < pl n (djC n d y)) - ib (pl n (djC n d x) < pl n (djC n d y))) % 2 = 0 := by
  by_cases hl : d (n - 1) = 2 * n - 1
  · have e : ∀ z, djC n d z = d z := fun z => by unfold djC; rw [if_pos hl]
    rw [e] at c2
    rw [e, e]
    exact chord_par M C hx.1 hx.2.1 hy.1 hy.2.1 c1 c2
  · obtain ⟨ea, eb, en⟩ := ends_al h2 M hl
    have da : djC n d (d (n - 1)) = d (2 * n - 1) := by unfold djC; rw [if_neg hl, if_pos rfl]
    have db : djC n d (d (2 * n - 1)) = d (n - 1) := by unfold djC; rw [if_neg hl, if_neg (fun e => en e.symm), if_pos rfl]
    have dz : ∀ z, z ≠ d (n - 1) → z ≠ d (2 * n - 1) → djC n d z = d z := fun z p q => by unfold djC; rw [if_neg hl, if_neg p, if_neg q]
    have nx : ∀ z, alC n z → z ≠ n - 1 ∧ z ≠ 2 * n - 1 := fun z h => ⟨h.2.2.1, h.2.2.2⟩
    -- a joined line and another one
    have J : ∀ z, alC n z → z ≠ d (n - 1) → z ≠ d (2 * n - 1) → (ib (pl n (d (n - 1)) < pl n z) + ib (pl n (d (2 * n - 1)) < pl n z) - ib (pl n (d (n - 1)) < pl n (d z)) - ib (pl n (d (2 * n - 1)) < pl n (d z))) % 2 = 0 ∧ (ib (pl n z < pl n (d (n - 1))) + ib (pl n (d z) < pl n (d (n - 1))) - ib (pl n z < pl n (d (2 * n - 1))) - ib (pl n (d z) < pl n (d (2 * n - 1)))) % 2 = 0 := by
      intro z hz p q
      have hdz := stay_al h2 M hz (.inr ⟨p, q⟩)
      have q1 := chord_par M C (a := n - 1) (u := z) (by omega) (by omega) hz.1 hz.2.1 (nx z hz).1 p
      have q2 := chord_par M C (a := 2 * n - 1) (u := z) (by omega) (by omega) hz.1 hz.2.1 (nx z hz).2 q
      have r1 := chord_par M C (a := z) (u := n - 1) hz.1 hz.2.1 (by omega) (by omega) (fun e => (nx z hz).1 e.symm) (fun e => (nx _ hdz).1 e.symm)
      have r2 := chord_par M C (a := z) (u := 2 * n - 1) hz.1 hz.2.1 (by omega) (by omega) (fun e => (nx z hz).2 e.symm) (fun e => (nx _ hdz).2 e.symm)
      obtain ⟨m1, m2⟩ := ib_mid h2 M hz
      obtain ⟨m3, m4⟩ := ib_mid h2 M hdz
      refine ⟨?_, ?_⟩ <;> omega
    by_cases xa : x = d (n - 1)
    · subst xa
      rw [da] at c2 ⊢
      rw [dz y c1 c2]
      exact (J y hy c1 c2).1
    · by_cases xb : x = d (2 * n - 1)
      · subst xb
        rw [db] at c2 ⊢
        rw [dz y c2 c1]
        have := (J y hy c2 c1).1
        omega
      · rw [dz x xa xb] at c2 ⊢
        by_cases ya : y = d (n - 1)
        · subst ya
          rw [da]
          exact (J x hx xa xb).2
        · by_cases yb : y = d (2 * n - 1)
          · subst yb
            rw [db]
            have := (J x hx xa xb).2
            omega
          · rw [dz y ya yb]
            exact chord_par M C hx.1 hx.2.1 hy.1 hy.2.1 c1 c2
end
/-- The mates of the partial closure. -/
def clL (n : Int) (ms : List Int) : List Int := (List.range 16).map fun (j : Nat) => if (j : Int) < 2 * (n - 1) then lfC n (djC n (mate ms) (emC n j)) else 0
theorem clL_len (n : Int) (ms : List Int) : (clL n ms).length = 16 := by simp [clL]
theorem cl_get {n : Int} (h8 : n ≤ 8) (ms : List Int) (j : Nat) : (clL n ms).getD j 0 = if (j : Int) < 2 * (n - 1) then lfC n (djC n (mate ms) (emC n j)) else 0 := by
  unfold clL
  rw [List.getD_eq_getElem?_getD, List.getElem?_map]
  by_cases h : j < 16
  · rw [List.getElem?_range h]
    rfl
  · rw [List.getElem?_eq_none (by simp; omega), if_neg (by omega)]
    rfl
theorem cl_mate {n : Int} (h8 : n ≤ 8) (ms : List Int) {q : Int} (a : 0 ≤ q) (b : q < 2 * (n - 1)) : mate (clL n ms) q = lfC n (djC n (mate ms) (emC n q)) := by
  unfold mate
  rw [cl_get h8, if_pos (by omega), show ((q.toNat : Nat) : Int) = q by omega]
  rfl
theorem clL_vd {n : Int} {ms : List Int} (h2 : 2 ≤ n) (h : VD (n, ms)) : VD (n - 1, clL n ms) := by
  have hIs := (isD_iff n ms h.2.1 h.2.2).1 h.1
  have hn : 1 ≤ n ∧ n ≤ 8 := hIs.1
  have M0 : Mt n (mate ms) := mt_of h.2.2 hIs
  have C0 : NC n (mate ms) := nc_of h.2.2 hIs
  have hz : ∀ j : Nat, 2 * (n - 1) ≤ (j : Int) → (clL n ms).getD j 0 = 0 := fun j hj => by rw [cl_get hn.2, if_neg (by omega)]
  have M : Mt (n - 1) (mate (clL n ms)) := {
    lt := fun q a b => by
      obtain ⟨e1, e2⟩ := em_al h2 a b
      rw [cl_mate hn.2 ms a b]
      have := lf_em h2 (dj_al h2 M0 e1)
      exact ⟨this.1, this.2.1⟩
    inv := fun q a b => by
      obtain ⟨e1, e2⟩ := em_al h2 a b
      have s := lf_em h2 (dj_al h2 M0 e1)
      rw [cl_mate hn.2 ms a b, cl_mate hn.2 ms s.1 s.2.1, s.2.2, dj_inv h2 M0 e1, e2]
    ne := fun q a b e => by
      obtain ⟨e1, e2⟩ := em_al h2 a b
      have s := lf_em h2 (dj_al h2 M0 e1)
      rw [cl_mate hn.2 ms a b] at e
      have e3 := s.2.2
      rw [e] at e3
      exact dj_ne h2 M0 e1 e3.symm }
  have C : NC (n - 1) (mate (clL n ms)) := by
    intro a u a0 a2 u0 u2 ⟨x, y, z⟩
    obtain ⟨p1, p2⟩ := em_al h2 a0 a2
    obtain ⟨q1, q2⟩ := em_al h2 u0 u2
    rw [cl_mate hn.2 ms a0 a2] at y z
    rw [cl_mate hn.2 ms u0 u2] at z
    have ga := pl_al h2 M0 p1
    have gu := pl_al h2 M0 q1
    have gda := pl_al h2 M0 (dj_al h2 M0 p1)
    have gdu := pl_al h2 M0 (dj_al h2 M0 q1)
    rw [p2] at ga
    rw [q2] at gu
    rw [ga.2.2, gu.2.2] at x
    rw [gu.2.2, gda.2.2] at y
    rw [gda.2.2, gdu.2.2] at z
    obtain ⟨ga1, ga2, _⟩ := ga
    obtain ⟨gu1, gu2, _⟩ := gu
    obtain ⟨gd1, gd2, _⟩ := gda
    obtain ⟨ge1, ge2, _⟩ := gdu
    have x' : pl n (emC n a) < pl n (emC n u) := by split at x <;> split at x <;> omega
    have y' : pl n (emC n u) < pl n (djC n (mate ms) (emC n a)) := by split at y <;> split at y <;> omega
    have z' : pl n (djC n (mate ms) (emC n a)) < pl n (djC n (mate ms) (emC n u)) := by split at z <;> split at z <;> omega
    have par := dj_par h2 M0 C0 p1 q1 (fun e => by rw [e] at x'; omega) (fun e => by rw [← e] at y'; omega)
    rw [ib_one x', ib_no (by omega), ib_one (by omega), ib_one z'] at par
    omega
  have hb : Bytes (clL n ms) := by
    intro x hx
    obtain ⟨j, hj, rfl⟩ := List.getElem_of_mem hx
    have g : (clL n ms).getD j 0 = (clL n ms)[j] := by rw [List.getD_eq_getElem?_getD, List.getElem?_eq_getElem hj]; rfl
    rw [← g]
    by_cases c : 2 * (n - 1) ≤ (j : Int)
    · rw [hz j c]; omega
    · have b := M.lt (j : Int) (by omega) (by omega)
      unfold mate at b
      rw [Int.toNat_natCast] at b
      omega
  exact ⟨(isD_iff (n - 1) _ (clL_len n ms) hb).2 (isS_mk (by omega) (by omega) hz M C), clL_len n ms, hb⟩
/-- The loops of the partial closure. -/
def clO (n : Int) (ms : List Int) : Int := if mate ms (n - 1) = 2 * n - 1 then 1 else 0
end Go.Proofs.Ytpmcngmphkegnaa
