/- k times an element is added to another one: the model's l02Sum. -/
import Derived.Test.YtbibmncepjmgcaaKh
import Derived.Test.YtbibmncepjmgcaaKi
namespace Go.Proofs.Ytbibmncepjmgcaa
open Go.RowKit Go.Lib
set_option linter.unusedVariables false
set_option linter.unusedSimpArgs false
theorem RdT.flat {w : World} {g : Nat} {ts : List Tm} (h : RdT w (some ⟨g, 0, none⟩) ts) (h16 : L16 ts) : ∀ i u, (tsl ts)[i]? = some u → w.cell? ((⟨g, 0, none⟩ : Addr).add i) = some u := by
  intro i u hu
  have hl := tsl_len ts h16
  have hi : i < 18 * ts.length := by rw [← hl]; exact (List.getElem?_eq_some_iff.1 hu).1
  have hk : i / 18 < ts.length := by omega
  have hg := tsl_get ts h16 (i / 18) hk (i % 18) (Nat.mod_lt _ (by omega))
  rw [Nat.div_add_mod, hu] at hg
  have := h.cell _ rfl (i / 18) hk (i % 18) u (by rw [List.getD_eq_getElem?_getD, List.getElem?_eq_getElem hk]; exact hg.symm)
  rw [Addr.add_mid, Addr.add_mid] at this
  rw [Addr.add_mid]
  rw [show 0 + i = 0 + i / 18 * 18 + i % 18 by omega]
  exact this
theorem elT_tOk {n p : Int} {ts : List Tm} : ∀ {m : Nat}, elT n p ts m = true → ∀ k, k < m → tOk n p (ts.getD k zT) = true ∧ (k = 0 ∨ ltT (ts.getD (k - 1) zT) (ts.getD k zT) = true)
  | 0, _, k, hk => by omega
  | m + 1, h, k, hk => by
    rw [elT, Bool.and_eq_true, Bool.and_eq_true, Bool.or_eq_true, decide_eq_true_iff] at h
    by_cases e : k = m
    · subst e; exact ⟨h.2.1, h.2.2⟩
    · exact elT_tOk h.1 k (by omega)
theorem elB_good {p c n : Int} {ts : List Tm} (h : elB p c n ts = true) (hts : ∀ t ∈ ts, t.2.1.length = 16 ∧ Bytes t.2.1) :
    primeB p = true ∧ (0 ≤ c ∧ c < p) ∧ (1 ≤ n ∧ n ≤ 8) ∧ ts.length ≤ 140 ∧ GoodT p ts ∧ (∀ t ∈ ts, t.1 = n) ∧ 2 ≤ p ∧ p ≤ 97 ∧ ∀ t ∈ ts, VD (kTm t) ∧ 0 ≤ t.2.2 ∧ t.2.2 ≤ 100 := by
  unfold elB at h
  rw [Bool.and_eq_true, Bool.and_eq_true, Bool.and_eq_true, Bool.and_eq_true, decide_eq_true_iff, decide_eq_true_iff, decide_eq_true_iff] at h
  obtain ⟨⟨hp, hc⟩, hn, hl, he⟩ := h
  have hp2 : 2 ≤ p ∧ p ≤ 97 := by unfold primeB at hp; simp at hp; exact ⟨hp.1, hp.2.1⟩
  have hk := elT_tOk he
  have ho : ∀ t ∈ ts, t.1 = n ∧ VD (kTm t) ∧ 1 ≤ t.2.2 ∧ t.2.2 < p := by
    intro t ht
    obtain ⟨i, hi, e⟩ := List.mem_iff_getElem.1 ht
    have h1 := (hk i hi).1
    rw [List.getD_eq_getElem?_getD, List.getElem?_eq_getElem hi, e] at h1
    have h1' : tOk n p t = true := h1
    unfold tOk at h1'
    rw [Bool.and_eq_true, Bool.and_eq_true, decide_eq_true_iff, decide_eq_true_iff] at h1'
    exact ⟨h1'.1.1, ⟨h1'.1.2, (hts t ht).1, (hts t ht).2⟩, h1'.2.1, h1'.2.2⟩
  have gd : ∀ i (hi : i < ts.length), ts.getD i zT = ts[i] := fun i hi => by rw [List.getD_eq_getElem?_getD, List.getElem?_eq_getElem hi]; rfl
  have hnext : ∀ i (h1 : i + 1 < ts.length), ltD (kTm ts[i]) (kTm ts[i + 1]) = true := by
    intro i h1
    have h2 := (hk (i + 1) h1).2
    rcases h2 with h2 | h2
    · omega
    · rw [show i + 1 - 1 = i by omega, gd i (by omega), gd (i + 1) h1] at h2
      exact h2
  have hsrt : ∀ (d i : Nat) (h1 : i + (d + 1) < ts.length), ltD (kTm (ts[i]'(by omega))) (kTm ts[i + (d + 1)]) = true := by
    intro d
    induction d with
    | zero => intro i h1; exact hnext i h1
    | succ d ih =>
      intro i h1
      have a := ih i (by omega)
      have b := hnext (i + (d + 1)) (by omega)
      exact linD.tr _ _ _ (ho _ (List.getElem_mem _)).2.1 (ho _ (List.getElem_mem _)).2.1 (ho _ (List.getElem_mem _)).2.1 a b
  refine ⟨hp, hc, hn, hl, ⟨fun t ht => (ho t ht).2.1, fun t ht => ⟨(ho t ht).2.2.1, (ho t ht).2.2.2⟩, ?_⟩, fun t ht => (ho t ht).1, hp2.1, hp2.2, fun t ht => ⟨(ho t ht).2.1, by have := (ho t ht).2.2.1; omega, by have := (ho t ht).2.2.2; omega⟩⟩
  rw [List.pairwise_iff_getElem]
  intro i j hi hj hij
  obtain ⟨d, rfl⟩ : ∃ d, j = i + (d + 1) := ⟨j - i - 1, by omega⟩
  exact hsrt d i hj
theorem addT_len (p : Int) (d : Dg) (k : Int) (ts : List Tm) : (addT p d k ts).length ≤ ts.length + 1 := by
  show (addL ltD trmT p d k ts).length ≤ _
  unfold addL
  split
  · omega
  · have := put_len (lt := ltD) (R := trmT) (p := p) (d := d) (k := k % p) ts; omega
theorem smN_len (p k : Int) (ts : List Tm) : ∀ L : List Tm, (smN p k ts L).length ≤ L.length + ts.length := by
  induction ts with
  | nil => intro L; simp [smN]
  | cons t ts ih =>
    intro L
    have h1 := ih (addT p (kTm t) (k * t.2.2) L)
    have h2 := addT_len p (kTm t) (k * t.2.2) L
    show (smN p k ts (addT p (kTm t) (k * t.2.2) L)).length ≤ _
    simp
    omega
end Go.Proofs.Ytbibmncepjmgcaa
