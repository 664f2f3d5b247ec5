/- Powers of an element, one after the other: plain. -/
import Derived.Test.YtbibmncepjmgcaaPos
import Derived.Test.YtbibmncepjmgcaaWordM
namespace Go.Proofs.Ytbibmncepjmgcaa
open Go.RowKit Go.Lib
set_option linter.unusedVariables false
set_option linter.unusedSimpArgs false
/-- The unit, and products with an element, as long as they have no more terms than an element may have. -/
def pwR (p c n : Int) (ts : List Tm) : Nat → Option (List Tm)
  | 0 => some [(n, oneL n n.toNat, 1)]
  | k + 1 => match pwR p c n ts k with
    | none => none
    | some L => if (prN p c n L ts).length ≤ 140 then some (prN p c n L ts) else none
theorem pwR_none {p c n : Int} {ts : List Tm} {k : Nat} (h : pwR p c n ts k = none) : ∀ m, k ≤ m → pwR p c n ts m = none
  | 0, hm => by obtain rfl : k = 0 := by omega
                exact h
  | m + 1, hm => by
    by_cases e : k = m + 1
    · rw [← e]; exact h
    · rw [pwR, pwR_none h m (by omega)]
/-- Sums of diagrams of one size. -/
def OkE (p n : Int) (L : List Tm) : Prop := GoodT p L ∧ (∀ t ∈ L, t.1 = n) ∧ L.length ≤ 140
theorem OkE.all {p n : Int} {L : List Tm} (hp : p ≤ 97) (h : OkE p n L) : ∀ t ∈ L, t.1 = n ∧ VD (kTm t) ∧ 0 ≤ t.2.2 ∧ t.2.2 ≤ 100 := fun t ht => by
  have h1 := h.1.rng t ht
  have h2 : 1 ≤ t.2.2 ∧ t.2.2 < p := h1
  exact ⟨h.2.1 t ht, h.1.val t ht, by omega, by omega⟩
theorem addT_size {p n : Int} {d : Dg} {k : Int} {L : List Tm} (hd : d.1 = n) (h : ∀ t ∈ L, t.1 = n) : ∀ t ∈ addT p d k L, t.1 = n := by
  intro t ht
  have ht' : t ∈ addL ltD trmT p d k L := ht
  unfold addL at ht'
  split at ht'
  · exact h t ht'
  · rcases put_keys t ht' with e | ⟨s, hs, e⟩
    · have : (t.1, t.2.1) = d := e
      rw [← hd, ← this]
    · have : (t.1, t.2.1) = (s.1, s.2.1) := e
      rw [(Prod.mk.inj this).1]
      exact h s hs
theorem adds_size {p n : Int} : ∀ (us : List Tu) (L : List Tm), (∀ u ∈ us, u.1.1 = n) → (∀ t ∈ L, t.1 = n) → ∀ t ∈ adds p us L, t.1 = n
  | [], L, _, h => h
  | u :: us, L, hu, h => by
    rw [adds_cons]
    exact adds_size us _ (fun x hx => hu x (by simp [hx])) (addT_size (hu u (by simp)) h)
theorem prN_size (p c n : Int) (xs ys : List Tm) : ∀ t ∈ prN p c n xs ys, t.1 = n := by
  refine adds_size _ _ (fun u hu => ?_) (fun t ht => by cases ht)
  unfold prU at hu
  obtain ⟨s, hs, hu⟩ := List.mem_flatMap.1 hu
  obtain ⟨t, ht, rfl⟩ := List.mem_map.1 hu
  rfl
theorem one_vd {n : Int} (h1 : 1 ≤ n) (h8 : n ≤ 8) : VD (n, oneL n n.toNat) := by
  have h := one_ok n h1 h8
  exact ⟨(isD_iff n _ (oneL_len _ _) h.1).2 h.2, oneL_len _ _, h.1⟩
theorem one_ok_e {p n : Int} (hp : 2 ≤ p) (h1 : 1 ≤ n) (h8 : n ≤ 8) : OkE p n [(n, oneL n n.toNat, 1)] := by
  refine ⟨⟨fun t ht => ?_, fun t ht => ?_, List.pairwise_singleton _ _⟩, fun t ht => ?_, by simp⟩
  · obtain rfl : t = _ := by simpa using ht
    exact one_vd h1 h8
  · obtain rfl : t = _ := by simpa using ht
    show 1 ≤ (1 : Int) ∧ (1 : Int) < p
    omega
  · obtain rfl : t = _ := by simpa using ht
    rfl
theorem pwR_ok {p c n : Int} {ts : List Tm} (hp : 2 ≤ p) (hp2 : p ≤ 97) (h1 : 1 ≤ n) (h8 : n ≤ 8) (ht : OkE p n ts) : ∀ (k : Nat) (L : List Tm), pwR p c n ts k = some L → OkE p n L
  | 0, L, h => by
    injection h with h
    subst h
    exact one_ok_e hp h1 h8
  | k + 1, L, h => by
    rw [pwR] at h
    cases hk : pwR p c n ts k with
    | none => rw [hk] at h; cases h
    | some M =>
      rw [hk] at h
      have hM := pwR_ok hp hp2 h1 h8 ht k M hk
      by_cases e : (prN p c n M ts).length ≤ 140
      · have h' : some (prN p c n M ts) = some L := by simpa [e] using h
        injection h' with h'
        subst h'
        exact ⟨prN_good (by omega) (fun t ht => ⟨(hM.all hp2 t ht).1, (hM.all hp2 t ht).2.1⟩) (fun t h => ⟨(ht.all hp2 t h).1, (ht.all hp2 t h).2.1⟩), prN_size _ _ _ _ _, e⟩
      · simp [e] at h
theorem pwR_next {p c n : Int} {ts L : List Tm} {k : Nat} (h : pwR p c n ts k = some L) : pwR p c n ts (k + 1) = if (prN p c n L ts).length ≤ 140 then some (prN p c n L ts) else none := by
  rw [pwR, h]
/-- The answer for the power k. -/
def PwA (p c n : Int) (ts : List Tm) (k : Nat) (p' c' n' code : Int) (L' : List Tm) : Prop :=
  (pwR p c n ts k = some L' ∧ p' = p ∧ c' = c ∧ n' = n ∧ code = 0) ∨ (pwR p c n ts k = none ∧ p' = 0 ∧ c' = 0 ∧ n' = 0 ∧ code = 3 ∧ L' = [])
theorem Res.nl2 {w w' : World} {B b : Nat} {q : Option Addr} {L : List Tm} {cs : Array Value} (h : Res w B q L) (hN : Only b w w') (hO : Own w b cs 30) : Res w' B q L := by
  rcases h with h | ⟨g, rfl, h0, sp, ho⟩
  · exact .inl h
  · exact .inr ⟨g, rfl, h0, sp, ho.only hN (ho.neTz hO (by decide))⟩
theorem MnT.ofOne {w : World} {B g : Nat} {t : Tm} (h0 : B ≤ g) (h : Own w g (tcl t).toArray 56) : MnT w B g [t] := ⟨h0, [], by simpa [tsl] using h⟩
end Go.Proofs.Ytbibmncepjmgcaa
