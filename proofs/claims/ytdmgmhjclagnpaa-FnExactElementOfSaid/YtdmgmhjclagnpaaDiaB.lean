/- Plain mathematics: what a text is read as is a diagram. -/
import Derived.Test.YtdmgmhjclagnpaaDiaA
import Derived.Test.YtdmgmhjclagnpaaIsI
namespace Go.Proofs.Ytdmgmhjclagnpaa
open Go.RowKit

structure Inv (n : Int) (k : Nat) (M o : List Int) : Prop where
  len : M.length = 16
  srt : o.Pairwise (· < ·)
  obd : ∀ y ∈ o, 0 ≤ y ∧ y < k
  out : ∀ i : Nat, 2 * n ≤ i → i < 16 → mate M i = 0
  cl : ∀ p : Int, 0 ≤ p → p < k → p ∉ o → 0 ≤ qq n M p ∧ qq n M p < k ∧ qq n M p ∉ o ∧ qq n M p ≠ p ∧ qq n M (qq n M p) = p ∧ mate M (pl n p) = pl n (qq n M p)
  nest : ∀ p r : Int, 0 ≤ p → p < k → p ∉ o → p < r → r < qq n M p → r ∉ o ∧ p < qq n M r ∧ qq n M r < qq n M p

theorem Inv.start (n : Int) : Inv n 0 zeros [] := by
  refine ⟨rfl, List.Pairwise.nil, by simp, ?_, by intro p h0 h1; omega, by intro p r h0 h1; omega⟩
  intro i _ h2
  rw [mate_nat]; unfold zeros
  rw [List.getD_eq_getElem?_getD, List.getElem?_replicate, if_pos h2]; rfl
theorem Inv.up {n : Int} {k : Nat} {M o : List Int} (h : Inv n k M o) : Inv n (k + 1) M (o ++ [(k : Int)]) := by
  refine ⟨h.len, ?_, ?_, h.out, ?_, ?_⟩
  · rw [List.pairwise_append]
    refine ⟨h.srt, by simp, ?_⟩
    intro a ha b hb
    have := h.obd a ha
    simp at hb; omega
  · intro y hy
    rw [List.mem_append] at hy
    rcases hy with hy | hy
    · have := h.obd y hy; omega
    · simp at hy; omega
  · intro p h0 h1 hp
    rw [List.mem_append] at hp
    have hpk : p ≠ k := fun e => hp (.inr (by simp [e]))
    obtain ⟨a1, a2, a3, a4, a5, a6⟩ := h.cl p h0 (by omega) (fun x => hp (.inl x))
    refine ⟨a1, by omega, ?_, a4, a5, a6⟩
    rw [List.mem_append]
    rintro (x | x)
    · exact a3 x
    · simp at x; omega
  · intro p r h0 h1 hp h2 h3
    rw [List.mem_append] at hp
    have hpk : p ≠ k := fun e => hp (.inr (by simp [e]))
    have hpo : p ∉ o := fun x => hp (.inl x)
    obtain ⟨a1, a2, a3, a4, a5, a6⟩ := h.cl p h0 (by omega) hpo
    obtain ⟨b1, b2, b3⟩ := h.nest p r h0 (by omega) hpo h2 h3
    refine ⟨?_, b2, b3⟩
    rw [List.mem_append]
    rintro (x | x)
    · exact b1 x
    · simp at x; omega
theorem mate_join {n : Int} (M : List Int) (hM : M.length = 16) (h8 : n ≤ 8) (a b : Int) (ha : 0 ≤ a ∧ a < 2 * n) (hb : 0 ≤ b ∧ b < 2 * n) (i : Int) (h0 : 0 ≤ i) :
    mate (joinL M (pl n a) (pl n b)) i = if i = pl n b then pl n a else if i = pl n a then pl n b else mate M i := by
  have pa := pl_bd n a h8 ha.1 ha.2
  have pb := pl_bd n b h8 hb.1 hb.2
  obtain ⟨j, rfl⟩ : ∃ j : Nat, i = j := ⟨i.toNat, by omega⟩
  rw [mate_nat, mate_nat, joinL_get M hM _ _ ⟨pa.1, pa.2.2⟩ ⟨pb.1, pb.2.2⟩]
theorem Inv.down {n : Int} {k : Nat} {M o : List Int} {y : Int} (h8 : n ≤ 8) (hk : (k : Int) < 2 * n) (h : Inv n k M (o ++ [y])) : Inv n (k + 1) (joinL M (pl n y) (pl n k)) o := by
  have yb := h.obd y (by simp)
  have hs := List.pairwise_append.1 h.srt
  have oy : ∀ a ∈ o, a < y := fun a ha => hs.2.2 a ha y (by simp)
  have yno : y ∉ o := fun x => by have := oy y x; omega
  have kno : (k : Int) ∉ o := fun x => by have := oy _ x; omega
  have mem : ∀ p, p ∉ o → p ≠ y → p ∉ o ++ [y] := by
    intro p h1 h2 h3
    rw [List.mem_append] at h3
    rcases h3 with h3 | h3
    · exact h1 h3
    · simp at h3; exact h2 h3
  have mj : ∀ i : Int, 0 ≤ i → mate (joinL M (pl n y) (pl n k)) i = if i = pl n k then pl n y else if i = pl n y then pl n k else mate M i :=
    fun i h0 => mate_join M h.len h8 y k ⟨yb.1, by omega⟩ ⟨by omega, hk⟩ i h0
  have inj : ∀ a b : Int, 0 ≤ a → a < 2 * n → 0 ≤ b → b < 2 * n → pl n a = pl n b → a = b := by
    intro a b a0 a2 b0 b2 e
    rw [← pl_pl n a a0 a2, e, pl_pl n b b0 b2]
  have qk : qq n (joinL M (pl n y) (pl n k)) k = y := by
    unfold qq
    rw [mj _ (pl_lt n k (by omega) hk).1, if_pos rfl, pl_pl n y yb.1 (by omega)]
  have qy : qq n (joinL M (pl n y) (pl n k)) y = k := by
    unfold qq
    rw [mj _ (pl_lt n y yb.1 (by omega)).1, if_neg (fun e => by have := inj y k yb.1 (by omega) (by omega) hk e; omega), if_pos rfl, pl_pl n k (by omega) hk]
  have qo : ∀ p : Int, 0 ≤ p → p < 2 * n → p ≠ k → p ≠ y → qq n (joinL M (pl n y) (pl n k)) p = qq n M p := by
    intro p h0 h2 e1 e2
    unfold qq
    rw [mj _ (pl_lt n p h0 h2).1, if_neg (fun e => e1 (inj p k h0 h2 (by omega) hk e)), if_neg (fun e => e2 (inj p y h0 h2 yb.1 (by omega) e))]
  refine ⟨by rw [joinL_len]; exact h.len, hs.1, fun a ha => ?_, ?_, ?_, ?_⟩
  · have := h.obd a (by simp [ha]); omega
  · intro i h1 h2
    have p1 := pl_lt n k (by omega) hk
    have p2 := pl_lt n y yb.1 (by omega)
    rw [mj i (by omega), if_neg (by omega), if_neg (by omega)]
    exact h.out i h1 h2
  · intro p h0 h1 hp
    by_cases e1 : p = k
    · subst e1
      rw [qk, qy]
      refine ⟨yb.1, by omega, yno, by omega, rfl, ?_⟩
      rw [mj _ (pl_lt n k (by omega) hk).1, if_pos rfl]
    · by_cases e2 : p = y
      · subst e2
        rw [qy, qk]
        refine ⟨by omega, by omega, kno, by omega, rfl, ?_⟩
        rw [mj _ (pl_lt n p yb.1 (by omega)).1, if_neg (fun e => e1 (inj p k yb.1 (by omega) (by omega) hk e)), if_pos rfl]
      · obtain ⟨a1, a2, a3, a4, a5, a6⟩ := h.cl p h0 (by omega) (mem p hp e2)
        have x1 : qq n M p ∉ o := fun x => a3 (by simp [x])
        have x2 : qq n M p ≠ y := fun x => a3 (by simp [x])
        rw [qo p h0 (by omega) e1 e2, qo _ a1 (by omega) (by omega) x2]
        refine ⟨a1, by omega, x1, a4, a5, ?_⟩
        rw [mj _ (pl_lt n p h0 (by omega)).1, if_neg (fun e => e1 (inj p k h0 (by omega) (by omega) hk e)), if_neg (fun e => e2 (inj p y h0 (by omega) yb.1 (by omega) e))]
        exact a6
  · intro p r h0 h1 hp h2 h3
    by_cases e1 : p = k
    · subst e1; rw [qk] at h3; omega
    · by_cases e2 : p = y
      · subst e2
        rw [qy] at h3 ⊢
        have rno : r ∉ o := fun x => by have := oy r x; omega
        obtain ⟨a1, a2, a3, a4, a5, a6⟩ := h.cl r (by omega) (by omega) (mem r rno (by omega))
        have x2 : qq n M r ≠ p := fun x => a3 (by simp [x])
        rw [qo r (by omega) (by omega) (by omega) (by omega)]
        refine ⟨rno, ?_, by omega⟩
        rcases Int.lt_trichotomy p (qq n M r) with q | q | q
        · exact q
        · exact (x2 q.symm).elim
        · have := h.nest (qq n M r) p a1 a2 a3 q (by rw [a5]; exact h2)
          exact (this.1 (by simp)).elim
      · obtain ⟨a1, a2, a3, a4, a5, a6⟩ := h.cl p h0 (by omega) (mem p hp e2)
        rw [qo p h0 (by omega) e1 e2] at h3 ⊢
        obtain ⟨b1, b2, b3⟩ := h.nest p r h0 (by omega) (mem p hp e2) h2 h3
        have x1 : r ∉ o := fun x => b1 (by simp [x])
        have x2 : r ≠ y := fun x => b1 (by simp [x])
        rw [qo r (by omega) (by omega) (by omega) x2]
        exact ⟨x1, b2, b3⟩
theorem pst_inv (n : Int) (l : List UInt8) (h8 : n ≤ 8) (k : Nat) (hk : (k : Int) ≤ 2 * n) (M o : List Int) (h : pst n l k = some (M, o)) : Inv n k M o := by
  induction k generalizing M o with
  | zero => simp [pst] at h; obtain ⟨rfl, rfl⟩ := h; exact Inv.start n
  | succ k ih =>
    unfold pst at h
    cases hp : pst n l k with
    | none => rw [hp] at h; simp at h
    | some q =>
      obtain ⟨M', o'⟩ := q
      have hI := ih (by omega) M' o' hp
      rw [hp] at h
      simp only at h
      split at h
      · simp at h; obtain ⟨rfl, rfl⟩ := h
        exact hI.up
      · split at h
        · rcases List.eq_nil_or_concat o' with e | ⟨ys, y, e⟩
          · subst e; simp at h
          · rw [List.concat_eq_append] at e
            subst e
            simp at h; obtain ⟨rfl, rfl⟩ := h
            exact hI.down h8 (by omega)
        · simp at h
theorem Inv.isS {n : Int} {M : List Int} (h1 : 1 ≤ n) (h8 : n ≤ 8) (h : Inv n (2 * n).toNat M []) : IsS n M := by
  have cl : ∀ p : Int, 0 ≤ p → p < 2 * n → 0 ≤ qq n M p ∧ qq n M p < 2 * n ∧ qq n M p ≠ p ∧ qq n M (qq n M p) = p ∧ mate M (pl n p) = pl n (qq n M p) := by
    intro p h0 h2
    obtain ⟨a1, a2, _, a4, a5, a6⟩ := h.cl p h0 (by omega) (by simp)
    exact ⟨a1, by omega, a4, a5, a6⟩
  refine ⟨⟨h1, h8⟩, fun i hi => ?_, fun i k hi2 hk hx => ?_⟩
  · unfold OkAt
    by_cases hin : 2 * n ≤ (i : Int)
    · rw [if_pos hin]; exact h.out i hin hi
    · rw [if_neg hin]
      have b := pl_lt n i (by omega) (by omega)
      have pp := pl_pl n i (by omega) (by omega)
      obtain ⟨a1, a2, a3, a4, a5⟩ := cl _ b.1 b.2
      rw [pp] at a5
      rw [a5]
      have c := pl_lt n _ a1 a2
      refine ⟨c.2, fun e => a3 (by have e2 := congrArg (pl n) e; rwa [pl_pl n _ a1 a2] at e2), ?_⟩
      obtain ⟨_, _, _, _, c5⟩ := cl _ a1 a2
      rw [c5, a4, pp]
  · have bi := pl_lt n i (by omega) hi2
    have bk := pl_lt n k (by omega) hk
    obtain ⟨a1, a2, a3, a4, a5⟩ := cl _ bi.1 bi.2
    obtain ⟨c1, c2, c3, c4, c5⟩ := cl _ bk.1 bk.2
    have ei : pl n (mate M i) = qq n M (pl n i) := by unfold qq; rw [pl_pl n i (by omega) hi2]
    have ek : pl n (mate M k) = qq n M (pl n k) := by unfold qq; rw [pl_pl n k (by omega) hk]
    unfold Cross lo hi at hx
    rw [ei, ek] at hx
    obtain ⟨x1, x2, x3⟩ := hx
    have key : ∀ p r : Int, 0 ≤ p → p < 2 * n → p < r → r < qq n M p → qq n M r < qq n M p := fun p r p0 p2 q1 q2 =>
      (h.nest p r p0 (by omega) (by simp) q1 q2).2.2
    rcases Int.lt_or_le (pl n i) (qq n M (pl n i)) with d1 | d1 <;> rcases Int.lt_or_le (pl n k) (qq n M (pl n k)) with d2 | d2
    · have := key (pl n i) (pl n k) bi.1 bi.2 (by omega) (by omega); omega
    · have := key (pl n i) (qq n M (pl n k)) bi.1 bi.2 (by omega) (by omega); rw [c4] at this; omega
    · have := key (qq n M (pl n i)) (pl n k) a1 a2 (by omega) (by rw [a4]; omega); rw [a4] at this; omega
    · have := key (qq n M (pl n i)) (qq n M (pl n k)) a1 a2 (by omega) (by rw [a4]; omega); rw [c4, a4] at this; omega
theorem parse_isS (l : List UInt8) (n : Int) (ms : List Int) (h : parse l = some (n, ms)) : IsS n ms := by
  unfold parse at h
  split at h
  · rename_i hb
    split at h
    · rename_i M hp
      simp at h
      obtain ⟨e, rfl⟩ := h
      have hI := pst_inv _ _ hb.2.2 _ (by omega) _ _ hp
      rw [e] at hI hb
      exact Inv.isS hb.2.1 hb.2.2 (by rw [show (2 * n).toNat = l.length by omega]; exact hI)
    · simp at h
  · simp at h
/-- The program's test and the model's agree. -/
theorem isD_iff (n : Int) (ms : List Int) (hms : ms.length = 16) (hb : Bytes ms) : isD n ms = true ↔ IsS n ms := by
  unfold isD
  rw [Bool.and_eq_true, decide_eq_true_iff, decide_eq_true_iff]
  constructor
  · intro h; exact parse_isS _ _ _ h.2
  · intro h; exact ⟨h.1, parse_text hms (Net.of hb h)⟩
theorem l01Is_dec (n : Int) (ms : List Int) (hms : ms.length = 16) (hb : Bytes ms) (w : World) :
    Calls Try.prog 54 #[.agg (dcells n ms)] w fun e w' => e = .returned (.bool (isD n ms)) ∧ Below w.heap.size w w' :=
  (l01Is_any n ms hms hb w).mono fun e w' ⟨b, he, hi, hw⟩ => ⟨by rw [he, show b = isD n ms from Bool.eq_iff_iff.2 (hi.trans (isD_iff n ms hms hb).symm)], hw⟩
end Go.Proofs.Ytdmgmhjclagnpaa
