/- Sums of diagrams of few strands have no more terms than there are diagrams; the elements of braid words: plain. -/
import Derived.Test.YtbibmncepjmgcaaPwp
import Derived.Test.YtbibmncepjmgcaaKm
import Derived.Test.YtbibmncepjmgcaaLoopV
namespace Go.Proofs.Ytbibmncepjmgcaa
open Go.RowKit Go.Lib
set_option linter.unusedVariables false
set_option linter.unusedSimpArgs false
theorem dts_six : ∀ n : Nat, n < 7 → (dts (2 * n) 0 []).length ≤ 132 := by decide +kernel
/-- No more terms than diagrams. -/
theorem good_len {p n : Int} {L : List Tm} (hG : GoodT p L) (hs : ∀ t ∈ L, t.1 = n) (h6 : n ≤ 6) : L.length ≤ 132 := by
  by_cases h0 : L = []
  · subst h0; simp
  obtain ⟨t0, ht0⟩ := List.exists_mem_of_ne_nil L h0
  have hv0 : VD (t0.1, t0.2.1) := hG.val t0 ht0
  rw [hs t0 ht0] at hv0
  have hn1 := (net_of n _ hv0.2.1 hv0.2.2 hv0.1).bd.1
  obtain ⟨N, rfl⟩ : ∃ N : Nat, n = (N : Int) := ⟨n.toNat, by omega⟩
  have h1 : (L.map fun t => (textS t.1 t.2.1).data.toList).Nodup := by
    rw [List.nodup_iff_pairwise_ne]
    rw [List.pairwise_map]
    refine hG.srt.imp ?_
    intro a b h e
    have h' : Op.bytesLess (textS a.1 a.2.1).toList (textS b.1 b.2.1).toList = true := h
    have e' : (textS a.1 a.2.1).toList = (textS b.1 b.2.1).toList := by
      rw [ByteArray.ext (Array.toList_inj.1 e)]
    rw [e', bl_irr] at h'
    cases h'
  have h2 := nodup_le (L.map fun t => (textS t.1 t.2.1).data.toList) (dts (2 * N) 0 []) h1 (fun x hx => by
    obtain ⟨t, ht, rfl⟩ := List.mem_map.1 hx
    have hv : VD (t.1, t.2.1) := hG.val t ht
    rw [hs t ht] at hv ⊢
    exact (text_in N _ (net_of (N : Int) _ hv.2.1 hv.2.2 hv.1) _ rfl).1)
  rw [List.length_map] at h2
  exact Nat.le_trans h2 (dts_six N (by omega))
/-- A multiple of the unit, and another one of the generator i. -/
def crN (p n i s t : Int) : List Tm := addT p (n, cupL n i) t (addT p (n, oneL n n.toNat) s [])
/-- A number of a braid word. -/
def ltN (p n a b x : Int) : List Tm := if x < 0 then crN p n (-x - 1) b a else crN p n (x - 1) a b
/-- The element of a braid word. -/
def brN (p c n a b : Int) (xs : List Int) : List Tm := xs.foldl (fun L x => prN p c n L (ltN p n a b x)) [(n, oneL n n.toNat, 1)]
theorem cup_vd {n i : Int} (h1 : 2 ≤ n) (h8 : n ≤ 8) (h0 : 0 ≤ i) (hi : i ≤ n - 2) : VD (n, cupL n i) := by
  have h := cup_ok n i h1 h8 h0 hi
  exact ⟨(isD_iff n _ (cupL_len n i) h.1).2 h.2, cupL_len n i, h.1⟩
theorem crN_ok {p n i s t : Int} (hp : 2 ≤ p) (h2 : 2 ≤ n) (h8 : n ≤ 8) (h0 : 0 ≤ i) (hi : i ≤ n - 2) : OkE p n (crN p n i s t) := by
  have g1 : GoodT p (addT p (n, oneL n n.toNat) s []) := add_good linD (by omega) (one_vd (by omega) h8) (Good.nil p)
  refine ⟨add_good linD (by omega) (cup_vd h2 h8 h0 hi) g1, addT_size rfl (addT_size rfl (fun t h => by cases h)), ?_⟩
  have a1 := addT_len p (n, cupL n i) t (addT p (n, oneL n n.toNat) s [])
  have a2 := addT_len p (n, oneL n n.toNat) s []
  have a3 : ([] : List Tm).length = 0 := rfl
  unfold crN
  omega
theorem ltN_ok {p n a b x : Int} (hp : 2 ≤ p) (h2 : 2 ≤ n) (h8 : n ≤ 8) (hx : x ≠ 0 ∧ -n < x ∧ x < n) : OkE p n (ltN p n a b x) := by
  unfold ltN
  split
  · exact crN_ok hp h2 h8 (by omega) (by omega)
  · exact crN_ok hp h2 h8 (by omega) (by omega)
theorem prN_ok6 {p c n : Int} {L M : List Tm} (hp : 2 ≤ p) (hp2 : p ≤ 97) (h6 : n ≤ 6) (hL : OkE p n L) (hM : OkE p n M) : OkE p n (prN p c n L M) := by
  have g : GoodT p (prN p c n L M) := prN_good (by omega) (fun t ht => ⟨(hL.all hp2 t ht).1, (hL.all hp2 t ht).2.1⟩) (fun t h => ⟨(hM.all hp2 t h).1, (hM.all hp2 t h).2.1⟩)
  refine ⟨g, prN_size _ _ _ _ _, ?_⟩
  have := good_len g (prN_size _ _ _ _ _) h6
  omega
theorem brN_snoc (p c n a b : Int) (xs : List Int) (x : Int) : brN p c n a b (xs ++ [x]) = prN p c n (brN p c n a b xs) (ltN p n a b x) := by simp [brN, List.foldl_append]
theorem brN_take (p c n a b : Int) (xs : List Int) (k : Nat) (h : k < xs.length) : brN p c n a b (xs.take (k + 1)) = prN p c n (brN p c n a b (xs.take k)) (ltN p n a b (xs.getD k 0)) := by
  rw [List.take_add_one, List.getElem?_eq_getElem h]
  show brN p c n a b (xs.take k ++ [xs[k]]) = _
  rw [brN_snoc, List.getD_eq_getElem?_getD, List.getElem?_eq_getElem h]
  rfl
theorem brN_ok {p c n a b : Int} (hp : 2 ≤ p) (hp2 : p ≤ 97) (h2 : 2 ≤ n) (h6 : n ≤ 6) (xs : List Int) (hx : ∀ x ∈ xs, x ≠ 0 ∧ -n < x ∧ x < n) : ∀ k, k ≤ xs.length → OkE p n (brN p c n a b (xs.take k))
  | 0, _ => one_ok_e hp (by omega) (by omega)
  | k + 1, hk => by
    rw [brN_take _ _ _ _ _ _ _ (by omega)]
    refine prN_ok6 hp hp2 h6 (brN_ok hp hp2 h2 h6 xs hx k (by omega)) (ltN_ok hp h2 (by omega) (hx _ ?_))
    rw [List.getD_eq_getElem?_getD, List.getElem?_eq_getElem (by omega)]
    exact List.getElem_mem _
end Go.Proofs.Ytbibmncepjmgcaa
