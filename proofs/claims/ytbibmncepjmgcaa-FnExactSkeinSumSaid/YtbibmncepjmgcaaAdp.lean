/- Sums that are built up by additions: plain laws. -/
import Derived.Test.YtbibmncepjmgcaaSms
namespace Go.Proofs.Ytbibmncepjmgcaa
open Go.RowKit Go.Lib
set_option linter.unusedVariables false
set_option linter.unusedSectionVars false
section
variable {K T : Type} [DecidableEq K] {lt : K → K → Bool} {V : K → Prop} {R : Trm K T}
theorem put_end {p : Int} {d : K} {k : Int} : ∀ {L : List T}, (∀ t ∈ L, lt (R.key t) d = true) → put lt R p d k L = L ++ [R.mkt d k]
  | [], _ => rfl
  | t :: L, h => by
    have a : lt (R.key t) d = true := h t (by simp)
    rw [put, if_pos a, put_end (fun x hx => h x (by simp [hx]))]
    rfl
end
abbrev Tu := Dg × Int
/-- Multiples of diagrams, added one after the other. -/
def adds (p : Int) (us : List Tu) (L : List Tm) : List Tm := us.foldl (fun A u => addT p u.1 u.2 A) L
theorem adds_nil (p : Int) (L : List Tm) : adds p [] L = L := rfl
theorem adds_cons (p : Int) (u : Tu) (us : List Tu) (L : List Tm) : adds p (u :: us) L = adds p us (addT p u.1 u.2 L) := rfl
theorem adds_append (p : Int) (us vs : List Tu) (L : List Tm) : adds p (us ++ vs) L = adds p vs (adds p us L) := by
  unfold adds; rw [List.foldl_append]
theorem adds_take (p : Int) (us : List Tu) (L : List Tm) (i : Nat) (hi : i < us.length) : adds p (us.take (i + 1)) L = addT p us[i].1 us[i].2 (adds p (us.take i) L) := by
  rw [← List.take_append_getElem hi, adds_append]
  rfl
theorem adds_good {p : Int} (hp : 0 < p) : ∀ (us : List Tu) (L : List Tm), (∀ u ∈ us, VD u.1) → GoodT p L → GoodT p (adds p us L)
  | [], _, _, h => h
  | u :: us, L, hv, h => adds_good hp us _ (fun x hx => hv x (by simp [hx])) (add_good linD hp (hv u (by simp)) h)
theorem adds_len (p : Int) : ∀ (us : List Tu) (L : List Tm), (adds p us L).length ≤ L.length + us.length
  | [], _ => by simp [adds]
  | u :: us, L => by
    have h1 := adds_len p us (addT p u.1 u.2 L)
    have h2 := addT_len p u.1 u.2 L
    rw [adds_cons, List.length_cons]
    omega
theorem addT_mod {p k k' : Int} (h : k % p = k' % p) (d : Dg) (L : List Tm) : addT p d k L = addT p d k' L := by
  show addL ltD trmT p d k L = addL ltD trmT p d k' L
  unfold addL
  rw [h]
theorem adds_mod {α : Type} (p : Int) (f g : α → Tu) : ∀ (l : List α) (L : List Tm), (∀ x ∈ l, (f x).1 = (g x).1 ∧ (f x).2 % p = (g x).2 % p) → adds p (l.map f) L = adds p (l.map g) L
  | [], _, _ => rfl
  | x :: l, L, h => by
    have hx := h x (by simp)
    rw [List.map_cons, List.map_cons, adds_cons, adds_cons, hx.1, addT_mod hx.2]
    exact adds_mod p f g l _ (fun y hy => h y (by simp [hy]))
theorem smN_adds (p k : Int) : ∀ (ts L : List Tm), smN p k ts L = adds p (ts.map fun t => (kTm t, k * t.2.2)) L
  | [], _ => rfl
  | t :: ts, L => by
    rw [List.map_cons, adds_cons, ← smN_adds p k ts]
    rfl
theorem adds_self {p : Int} : ∀ (ts L : List Tm), GoodT p (L ++ ts) → adds p (ts.map fun t => (kTm t, t.2.2)) L = L ++ ts
  | [], L, _ => by simp [adds]
  | t :: ts, L, h => by
    have hr := h.rng t (by simp)
    have hs : ∀ s ∈ L, ltD (kTm s) (kTm t) = true := by
      intro s hs
      exact (List.pairwise_append.1 h.srt).2.2 s hs t (by simp)
    rw [List.map_cons, adds_cons]
    have hr1 : 1 ≤ t.2.2 := hr.1
    have hr2 : t.2.2 < p := hr.2
    have hm : t.2.2 % p = t.2.2 := Int.emod_eq_of_lt (by omega) hr2
    have e : addT p (kTm t) t.2.2 L = L ++ [t] := by
      show addL ltD trmT p (kTm t) t.2.2 L = _
      unfold addL
      rw [hm, if_neg (by omega), put_end hs]
      rfl
    show adds p (ts.map fun t => (kTm t, t.2.2)) (addT p (kTm t) t.2.2 L) = _
    rw [e, adds_self ts (L ++ [t]) (by simpa using h)]
    simp
/-- The factors of a diagram in a list of multiples. -/
def tot (d : Dg) : List Tu → Int
  | [] => 0
  | u :: us => (if u.1 = d then u.2 else 0) + tot d us
theorem tot_append (d : Dg) : ∀ us vs : List Tu, tot d (us ++ vs) = tot d us + tot d vs
  | [], vs => by simp [tot]
  | u :: us, vs => by
    rw [List.cons_append, tot, tot, tot_append d us vs]
    omega
theorem tot_perm {us vs : List Tu} (h : us.Perm vs) (d : Dg) : tot d us = tot d vs := by
  induction h with
  | nil => rfl
  | cons x _ ih => rw [tot, tot, ih]
  | swap x y l => simp only [tot]; omega
  | trans _ _ ih1 ih2 => rw [ih1, ih2]
theorem fac_adds {p : Int} (hp : 0 < p) (d : Dg) : ∀ (us : List Tu) (L : List Tm), (∀ u ∈ us, VD u.1) → GoodT p L → fac trmT d (adds p us L) = (fac trmT d L + tot d us) % p
  | [], L, _, h => by
    have r := fac_rng hp h d
    rw [adds_nil, tot, Int.add_zero, Int.emod_eq_of_lt r.1 r.2]
  | u :: us, L, hv, h => by
    have hu := hv u (by simp)
    rw [adds_cons, fac_adds hp d us _ (fun x hx => hv x (by simp [hx])) (add_good linD hp hu h), fac_add linD hp hu h, tot]
    by_cases e : u.1 = d
    · subst e
      rw [if_pos rfl, if_pos rfl, Int.emod_add_emod, Int.add_assoc]
    · rw [if_neg (fun x => e x.symm), if_neg e, Int.zero_add]
/-- The order of additions does not matter. -/
theorem adds_perm {p : Int} (hp : 0 < p) {us vs : List Tu} (h : us.Perm vs) (L : List Tm) (hv : ∀ u ∈ us, VD u.1) (hL : GoodT p L) : adds p us L = adds p vs L := by
  have hv' : ∀ u ∈ vs, VD u.1 := fun u hu => hv u (h.mem_iff.2 hu)
  refine good_unique linD (adds_good hp us L hv hL) (adds_good hp vs L hv' hL) (fun d => ?_)
  rw [fac_adds hp d us L hv hL, fac_adds hp d vs L hv' hL, tot_perm h]
theorem smN_self {p : Int} {ts : List Tm} (h : GoodT p ts) : smN p 1 ts [] = ts := by
  have e : (ts.map fun t => (kTm t, (1 : Int) * t.2.2)) = ts.map fun t => (kTm t, t.2.2) := List.map_congr_left (fun t _ => by rw [Int.one_mul])
  rw [smN_adds, e]
  have := adds_self (p := p) ts [] (by simpa using h)
  rwa [List.nil_append] at this
end Go.Proofs.Ytbibmncepjmgcaa
