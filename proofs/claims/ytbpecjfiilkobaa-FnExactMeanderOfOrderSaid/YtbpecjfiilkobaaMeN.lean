/- Plain mathematics of systems of arches: counts of curves, texts of arches, turns, orders, intervals. -/
import Derived.Test.YtbpecjfiilkobaaMeM
namespace Go.Proofs.Ytbpecjfiilkobaa
open Go.RowKit
set_option linter.unusedVariables false
set_option linter.unusedSimpArgs false
def markN : List Bool → List Nat → List Bool
  | mb, [] => mb
  | mb, x :: l => markN (mb.set x true) l
theorem markN_len (l : List Nat) : ∀ mb : List Bool, (markN mb l).length = mb.length := by
  induction l with
  | nil => intro mb; rfl
  | cons x l ih => intro mb; rw [markN, ih, List.length_set]
theorem bgs (mb : List Bool) (x i : Nat) (hx : i < mb.length) : (mb.set x true).getD i true = if i = x then true else mb.getD i true := by
  rw [List.getD_eq_getElem?_getD, List.getD_eq_getElem?_getD, List.getElem?_set]
  by_cases e : x = i
  · subst e; simp [hx]
  · rw [if_neg e, if_neg (fun h => e h.symm)]
theorem markN_get (l : List Nat) : ∀ (mb : List Bool) (i : Nat), i < mb.length → ((markN mb l).getD i true = true ↔ mb.getD i true = true ∨ i ∈ l) := by
  induction l with
  | nil => intro mb i _; simp [markN]
  | cons x l ih =>
    intro mb i hi
    rw [markN, ih (mb.set x true) i (by simpa using hi), bgs mb x i hi]
    by_cases e : i = x
    · subst e; simp
    · rw [if_neg e]; simp [e]
theorem markN_app (a b : List Nat) : ∀ mb : List Bool, markN mb (a ++ b) = markN (markN mb a) b := by
  induction a with
  | nil => intro mb; rfl
  | cons x a ih => intro mb; exact ih _
theorem markN_step (mb : List Bool) (l : List Nat) (j : Nat) (h : j < l.length) : markN mb (l.take (j + 1)) = (markN mb (l.take j)).set (l.getD j 0) true := by
  rw [List.take_add_one, markN_app, List.getElem?_eq_getElem h, List.getD_eq_getElem?_getD, List.getElem?_eq_getElem h]; rfl
theorem curve_lt {L : Nat} {f g : Nat → Nat} (hf : Mf L f) (hg : Mf L g) (h12 : L ≤ 12) {s : Nat} (hs : s < L) : (∀ x ∈ curve f g s, x < L) ∧ (curve f g s).length ≤ L := by
  obtain ⟨K, hK, hc⟩ := curve_ret hf hg h12 hs
  rw [hc]
  exact ⟨walkL_lt hf hg hs K, by rw [walkL_len]; exact rounds_lt hf hg hs K hK.first⟩
theorem markN_take (l : List Nat) (L : Nat) : ∀ mb : List Bool, (markN mb l).take L = markN (mb.take L) l := by
  induction l with
  | nil => intro mb; rfl
  | cons x l ih =>
    intro mb
    rw [markN, ih, markN]
    congr 1
    rw [List.take_set]
/-- What has been met, and how many curves, behind i points. -/
def cntL (f g : Nat → Nat) (n0 : Nat) : Nat → List Bool × Nat
  | 0 => (List.replicate n0 false, 0)
  | i + 1 => if (cntL f g n0 i).1.getD i true = true then cntL f g n0 i else (markN (cntL f g n0 i).1 (curve f g i), (cntL f g n0 i).2 + 1)
theorem cntL_len (f g : Nat → Nat) (n0 i : Nat) : (cntL f g n0 i).1.length = n0 := by
  induction i with
  | zero => simp [cntL]
  | succ i ih => unfold cntL; split <;> simp [markN_len, ih]
theorem cntL_bd (f g : Nat → Nat) (n0 i : Nat) : (cntL f g n0 i).2 ≤ i := by
  induction i with
  | zero => simp [cntL]
  | succ i ih =>
    unfold cntL; split
    · omega
    · show (cntL f g n0 i).2 + 1 ≤ i + 1; omega
theorem rep_getB (n j : Nat) (h : j < n) : (List.replicate n false).getD j true = false := by
  rw [List.getD_eq_getElem?_getD, List.getElem?_replicate, if_pos h]; rfl
theorem btake (mb : List Bool) (L i : Nat) (h : i < L) : (mb.take L).getD i true = mb.getD i true := by
  rw [List.getD_eq_getElem?_getD, List.getD_eq_getElem?_getD, List.getElem?_take_of_lt h]
theorem cntL_take (f g : Nat → Nat) (L n0 : Nat) (hL : L ≤ n0) (i : Nat) (hi : i ≤ L) : (cntL f g L i).1 = (cntL f g n0 i).1.take L ∧ (cntL f g L i).2 = (cntL f g n0 i).2 := by
  induction i with
  | zero => simp [cntL, List.take_replicate, Nat.min_eq_left hL]
  | succ i ih =>
    obtain ⟨h1, h2⟩ := ih (by omega)
    unfold cntL
    rw [h1, h2, btake _ _ _ (by omega)]
    split
    · exact ⟨h1, h2⟩
    · exact ⟨(markN_take _ _ _).symm, rfl⟩
/-- The number of the components. -/
def comps (f g : Nat → Nat) (L : Nat) : Nat := (cntL f g 12 L).2
theorem cntL_mono (f g : Nat → Nat) (n0 i : Nat) : (cntL f g n0 i).2 ≤ (cntL f g n0 (i + 1)).2 := by
  conv => rhs; unfold cntL
  split <;> simp
theorem cntL_mono' (f g : Nat → Nat) (n0 i d : Nat) : (cntL f g n0 i).2 ≤ (cntL f g n0 (i + d)).2 := by
  induction d with
  | zero => exact Nat.le_refl _
  | succ d ih => exact Nat.le_trans ih (cntL_mono f g n0 (i + d))
theorem cntL_one (f g : Nat → Nat) (n0 : Nat) (h : 1 ≤ n0) : cntL f g n0 1 = (markN (List.replicate n0 false) (curve f g 0), 1) := by
  rw [cntL, if_neg]
  · rfl
  · simp [cntL, List.getD_eq_getElem?_getD, List.getElem?_replicate, show 0 < n0 by omega]
theorem cntL_same (f g : Nat → Nat) (n0 : Nat) (h : 1 ≤ n0) (i : Nat) (h1 : (cntL f g n0 (1 + i)).2 = 1) : cntL f g n0 (1 + i) = cntL f g n0 1 := by
  induction i with
  | zero => rfl
  | succ i ih =>
    have m := cntL_mono f g n0 (1 + i)
    have m1 := cntL_mono' f g n0 1 i
    rw [cntL_one f g n0 h] at m1
    have e := ih (by rw [show 1 + i + 1 = 1 + (i + 1) by omega] at m; simp only at m1; omega)
    rw [show 1 + (i + 1) = (1 + i) + 1 by omega] at h1 ⊢
    unfold cntL at h1 ⊢
    split
    · exact e
    · rename_i hc
      rw [if_neg hc, e, cntL_one f g n0 h] at h1
      simp at h1
theorem curve_all {L : Nat} {f g : Nat → Nat} (hf : Mf L f) (hg : Mf L g) (h12 : L ≤ 12) (h2 : 2 ≤ L) : (curve f g 0).length = L ↔ ∀ j, j < L → j ∈ curve f g 0 := by
  obtain ⟨K, hK, hc⟩ := curve_ret hf hg h12 (show 0 < L by omega)
  have nd := walkL_nd hf hg (show 0 < L by omega) K hK.first
  have lt := walkL_lt hf hg (show 0 < L by omega) K
  rw [← hc] at nd lt
  constructor
  · intro hl j hj
    refine Decidable.byContradiction fun hn => ?_
    have := nodup_lt (a := j :: curve f g 0) (n := L) (List.nodup_cons.2 ⟨hn, nd⟩) (fun x hx => by
      rw [List.mem_cons] at hx
      rcases hx with hx | hx
      · omega
      · exact lt x hx)
    simp at this; omega
  · intro ha
    have h1 := nodup_lt nd lt
    have h3 := nodup_sub (List.range L) (curve f g 0) List.nodup_range (fun x hx => ha x (List.mem_range.1 hx))
    simp at h3; omega
theorem comps_one {L : Nat} {f g : Nat → Nat} (hf : Mf L f) (hg : Mf L g) (h12 : L ≤ 12) (h2 : 2 ≤ L) : comps f g L = 1 ↔ (curve f g 0).length = L := by
  rw [curve_all hf hg h12 h2]
  unfold comps
  have e1 := cntL_one f g 12 (by omega)
  constructor
  · intro hc j hj
    by_cases j0 : j = 0
    · subst j0
      obtain ⟨K, hK, hw⟩ := curve_ret hf hg h12 (show 0 < L by omega)
      rw [hw, walkL_mem]
      exact ⟨0, hK.pos, .inl rfl⟩
    · have m1 := cntL_mono' f g 12 1 (j - 1)
      have m2 := cntL_mono' f g 12 j 1
      have m3 := cntL_mono' f g 12 (j + 1) (L - (j + 1))
      rw [show 1 + (j - 1) = j by omega, e1] at m1
      rw [show j + 1 + (L - (j + 1)) = L by omega] at m3
      simp only at m1
      have c1 : (cntL f g 12 j).2 = 1 := by omega
      have c2 : (cntL f g 12 (j + 1)).2 = 1 := by omega
      have s1 := cntL_same f g 12 (by omega) (j - 1) (by rw [show 1 + (j - 1) = j by omega]; exact c1)
      rw [show 1 + (j - 1) = j by omega] at s1
      unfold cntL at c2
      split at c2
      · rename_i hm
        rw [s1, e1] at hm
        rcases (markN_get _ _ j (by simp; omega)).1 hm with h | h
        · rw [rep_getB 12 j (by omega)] at h; cases h
        · exact h
      · simp at c2; omega
  · intro ha
    have : ∀ i, 1 + i ≤ L → cntL f g 12 (1 + i) = cntL f g 12 1 := by
      intro i
      induction i with
      | zero => intro _; rfl
      | succ i ih =>
        intro hi
        have e := ih (by omega)
        rw [show 1 + (i + 1) = (1 + i) + 1 by omega]
        conv => lhs; unfold cntL
        rw [e, if_pos]
        rw [e1]
        exact (markN_get _ _ _ (by simp; omega)).2 (.inr (ha _ (by omega)))
    have e := this (L - 1) (by omega)
    rw [show 1 + (L - 1) = L by omega] at e
    rw [e, e1]
/-- The letters of joined points. -/
def txt (xs : List Int) : Nat → List UInt8
  | 0 => []
  | k + 1 => txt xs k ++ [if (k : Int) < xs.getD k 0 then 40 else 41]
theorem txt_len (xs : List Int) (k : Nat) : (txt xs k).length = k := by
  induction k with
  | zero => rfl
  | succ k ih => rw [txt, List.length_append, ih]; rfl
/-- Whether some of the arches cross. -/
def crossB (xs : List Int) : Bool := match sarc (txt xs xs.length) with
  | some o => !decide (o.take xs.length = xs)
  | none => true
/-- The turned points behind k of them. -/
def tL (xs : List Int) (n : Nat) : Nat → List Int
  | 0 => List.replicate n 0
  | k + 1 => (tL xs n k).set ((k + 1) % n) ((xs.getD k 0 + 1) % n)
theorem tL_len (xs : List Int) (n k : Nat) : (tL xs n k).length = n := by
  induction k with
  | zero => simp [tL]
  | succ k ih => rw [tL, List.length_set, ih]
/-- The arches above, and below, of an order, behind k pairs. -/
def uL (xs : List Int) : Nat → List Int
  | 0 => List.replicate xs.length 0
  | k + 1 => joinL (uL xs k) (xs.getD (2 * k) 0) (xs.getD (2 * k + 1) 0)
def dL (xs : List Int) : Nat → List Int
  | 0 => List.replicate xs.length 0
  | k + 1 => joinL (dL xs k) (xs.getD (2 * k + 1) 0) (xs.getD ((2 * k + 2) % xs.length) 0)
theorem uL_len (xs : List Int) (k : Nat) : (uL xs k).length = xs.length := by
  induction k with
  | zero => simp [uL]
  | succ k ih => rw [uL, joinL_len, ih]
theorem dL_len (xs : List Int) (k : Nat) : (dL xs k).length = xs.length := by
  induction k with
  | zero => simp [dL]
  | succ k ih => rw [dL, joinL_len, ih]
/-- Whether the numbers are below n, not marked, and all different. -/
def eachN (n : Int) : List Int → List Bool → Bool
  | [], _ => true
  | x :: r, mb => if 0 ≤ x ∧ x < n ∧ mb.getD x.toNat true = false then eachN n r (mb.set x.toNat true) else false
theorem eachN_take (n : Nat) (xs : List Int) : ∀ (mb mb' : List Bool), n ≤ mb.length → n ≤ mb'.length → (∀ j, j < n → mb.getD j true = mb'.getD j true) → eachN n xs mb = eachN n xs mb' := by
  induction xs with
  | nil => intros; rfl
  | cons x r ih =>
    intro mb mb' h1 h2 h
    unfold eachN
    by_cases c : 0 ≤ x ∧ x < n
    · rw [h x.toNat (by omega)]
      rw [ih (mb.set x.toNat true) (mb'.set x.toNat true) (by simpa using h1) (by simpa using h2) fun j hj => by rw [bgs _ _ _ (by omega), bgs _ _ _ (by omega), h j hj]]
    · rw [if_neg (fun h => c ⟨h.1, h.2.1⟩), if_neg (fun h => c ⟨h.1, h.2.1⟩)]
theorem eachN_each (n : Nat) (hn : n ≤ 12) (xs : List Int) : eachN n xs (List.replicate n false) = eachN n xs (List.replicate 12 false) := by
  refine eachN_take n xs _ _ (by simp) (by simpa using hn) fun j hj => ?_
  rw [rep_getB n j hj, rep_getB 12 j (by omega)]
/-- A list with each number once: its numbers are points. -/
theorem eachN_lt (n : Nat) (xs : List Int) : ∀ mb : List Bool, eachN n xs mb = true → ∀ x ∈ xs, 0 ≤ x ∧ x < n := by
  induction xs with
  | nil => intro mb _ x hx; simp at hx
  | cons y r ih =>
    intro mb h x hx
    unfold eachN at h
    split at h
    · rename_i hc
      rw [List.mem_cons] at hx
      rcases hx with hx | hx
      · subst hx; exact ⟨hc.1, hc.2.1⟩
      · exact ih _ h x hx
    · simp at h
/-- Whether no arch of both leaves the points from a to b. -/
def closedB (f g : Nat → Nat) (a b : Nat) : Prop := ∀ p, a ≤ p → p ≤ b → (a ≤ f p ∧ f p ≤ b) ∧ (a ≤ g p ∧ g p ≤ b)
/-- A pair is irreducible. -/
def Irr (f g : Nat → Nat) (L : Nat) : Prop := ∀ a b, a ≤ b → b < L → b - a + 1 < L → ¬ closedB f g a b
end Go.Proofs.Ytbpecjfiilkobaa
