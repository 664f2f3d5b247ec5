/- Plain mathematics: a diagram comes back from its text. -/
import Derived.Test.YtdmgmhjclagnpaaIsS
namespace Go.Proofs.Ytdmgmhjclagnpaa

/-- The place at the other end of a place's line. -/
def qq (n : Int) (ms : List Int) (p : Int) : Int := pl n (mate ms (pl n p))
theorem pl_pl (n i : Int) (_ : 0 ≤ i) (h2 : i < 2 * n) : pl n (pl n i) = i := by
  unfold pl
  by_cases h : i < n
  · rw [if_pos h, if_pos h]
  · rw [if_neg h, if_neg (by omega)]; omega
theorem pl_lt (n i : Int) (h0 : 0 ≤ i) (h2 : i < 2 * n) : 0 ≤ pl n i ∧ pl n i < 2 * n := by
  unfold pl; split <;> omega
/-- What the test of diagrams says of places. -/
structure Net (n : Int) (ms : List Int) : Prop where
  bd : 1 ≤ n ∧ n ≤ 8
  lt : ∀ p : Int, 0 ≤ p → p < 2 * n → 0 ≤ qq n ms p ∧ qq n ms p < 2 * n ∧ qq n ms p ≠ p
  inv : ∀ p : Int, 0 ≤ p → p < 2 * n → qq n ms (qq n ms p) = p
  mt : ∀ p : Int, 0 ≤ p → p < 2 * n → mate ms (pl n p) = pl n (qq n ms p)
  out : ∀ i : Nat, 2 * n ≤ i → i < 16 → mate ms i = 0
  nest : ∀ p r : Int, 0 ≤ p → p < r → r < qq n ms p → qq n ms p < 2 * n → p < qq n ms r ∧ qq n ms r < qq n ms p
theorem mate_bd {ms : List Int} (hb : Bytes ms) (i : Int) : 0 ≤ mate ms i ∧ mate ms i ≤ 255 := hb.get _
theorem Net.of {n : Int} {ms : List Int} (hb : Bytes ms) (h : IsS n ms) : Net n ms := by
  obtain ⟨hbd, hok, hcr⟩ := h
  have ok : ∀ i : Int, 0 ≤ i → i < 2 * n → 0 ≤ mate ms i ∧ mate ms i < 2 * n ∧ mate ms i ≠ i ∧ mate ms (mate ms i) = i := by
    intro i h0 h2
    have h := hok i.toNat (by omega)
    rw [show ((i.toNat : Nat) : Int) = i by omega] at h
    unfold OkAt at h
    rw [if_neg (by omega)] at h
    exact ⟨(mate_bd hb i).1, h⟩
  have hlt : ∀ p : Int, 0 ≤ p → p < 2 * n → 0 ≤ qq n ms p ∧ qq n ms p < 2 * n ∧ qq n ms p ≠ p := by
    intro p h0 h2
    have b := pl_lt n p h0 h2
    obtain ⟨a1, a2, a3, a4⟩ := ok _ b.1 b.2
    have c := pl_lt n _ a1 a2
    refine ⟨c.1, c.2, fun e => a3 ?_⟩
    have := congrArg (pl n) e
    unfold qq at this
    rwa [pl_pl n _ a1 a2] at this
  have hmt : ∀ p : Int, 0 ≤ p → p < 2 * n → mate ms (pl n p) = pl n (qq n ms p) := by
    intro p h0 h2
    have b := pl_lt n p h0 h2
    obtain ⟨a1, a2, a3, a4⟩ := ok _ b.1 b.2
    unfold qq
    rw [pl_pl n _ a1 a2]
  have hinv : ∀ p : Int, 0 ≤ p → p < 2 * n → qq n ms (qq n ms p) = p := by
    intro p h0 h2
    have b := pl_lt n p h0 h2
    obtain ⟨a1, a2, a3, a4⟩ := ok _ b.1 b.2
    unfold qq
    rw [pl_pl n _ a1 a2, a4, pl_pl n p h0 h2]
  have cross : ∀ p r : Int, 0 ≤ p → p < 2 * n → 0 ≤ r → r < 2 * n → p < r → r < qq n ms p → qq n ms p < qq n ms r → p < qq n ms p → False := by
    intro p r p0 p2 r0 r2 h1 h2 h3 h4
    have bp := pl_lt n p p0 p2
    have br := pl_lt n r r0 r2
    have := hcr (pl n p).toNat (pl n r).toNat (by omega) (by omega)
    apply this
    rw [show (((pl n p).toNat : Nat) : Int) = pl n p by omega, show (((pl n r).toNat : Nat) : Int) = pl n r by omega]
    unfold Cross lo hi
    rw [pl_pl n p p0 p2, pl_pl n r r0 r2]
    have e1 : pl n (mate ms (pl n p)) = qq n ms p := rfl
    have e2 : pl n (mate ms (pl n r)) = qq n ms r := rfl
    rw [e1, e2]
    omega
  refine ⟨hbd, hlt, hinv, hmt, ?_, ?_⟩
  · intro i h1 h2
    have h := hok i h2
    unfold OkAt at h
    rwa [if_pos h1] at h
  · intro p r h0 h1 h2 h3
    have q1 := hlt p h0 (by omega)
    have q2 := hlt r (by omega) (by omega)
    have i1 := hinv p h0 (by omega)
    have i2 := hinv r (by omega) (by omega)
    constructor
    · rcases Int.lt_trichotomy p (qq n ms r) with h | h | h
      · exact h
      · rw [← h] at i2; omega
      · exact (cross (qq n ms r) p (by omega) (by omega) h0 (by omega) h (by omega) (by omega) (by omega)).elim
    · rcases Int.lt_trichotomy (qq n ms r) (qq n ms p) with h | h | h
      · exact h
      · rw [h, i1] at i2; omega
      · exact (cross p r h0 (by omega) (by omega) (by omega) h1 h2 h (by omega)).elim

theorem letL_get (n : Int) (ms : List Int) (N k : Nat) (hk : k ≤ 2 * N) (i : Nat) (hi : i < k) : (letL n ms N k)[i]? = some (chAt n ms i) := by
  induction k with
  | zero => omega
  | succ k ih =>
    rw [letL, List.getElem?_set]
    by_cases e : k = i
    · subst e
      rw [if_pos rfl, if_pos (by rw [letL_len]; omega)]
    · rw [if_neg e]
      exact ih (by omega) (by omega)
theorem text_len (n : Int) (ms : List Int) (h : 0 ≤ n) : ((textS n ms).data.toList.length : Int) = 2 * n := by
  unfold textS
  rw [strOfNums_data, List.length_map, letL_len]
  omega
theorem text_get (n : Int) (ms : List Int) (p : Nat) (hp : (p : Int) < 2 * n) : (textS n ms).data.toList[p]? = some (if (p : Int) < qq n ms p then 40 else 41) := by
  unfold textS
  rw [strOfNums_data, List.getElem?_map, letL_get n ms n.toNat (2 * n.toNat) (Nat.le_refl _) p (by omega)]
  unfold chAt qq mate
  split <;> rfl

/-- The places that are open behind k of them. -/
def opens (n : Int) (ms : List Int) (k : Nat) : List Int := ((List.range k).filter (fun p : Nat => decide ((k : Int) ≤ qq n ms p))).map (fun p : Nat => (p : Int))
theorem opens_up {n : Int} {ms : List Int} (h : Net n ms) (k : Nat) (hk : (k : Int) < 2 * n) (hq : (k : Int) < qq n ms k) : opens n ms (k + 1) = opens n ms k ++ [(k : Int)] := by
  unfold opens
  rw [List.range_succ, List.filter_append, List.map_append]
  have e1 : List.filter (fun p : Nat => decide (((k + 1 : Nat) : Int) ≤ qq n ms p)) [k] = [k] := by
    rw [List.filter_cons_of_pos (by simp; omega), List.filter_nil]
  rw [e1]
  congr 2
  apply List.filter_congr
  intro p hp
  rw [List.mem_range] at hp
  have := h.inv p (by omega) (by omega)
  rw [decide_eq_decide]
  constructor
  · intro a; omega
  · intro a
    rcases Int.lt_or_eq_of_le a with b | b
    · omega
    · rw [← b] at this; omega
theorem opens_down {n : Int} {ms : List Int} (h : Net n ms) (k : Nat) (hk : (k : Int) < 2 * n) (hq : qq n ms k < k) : opens n ms k = opens n ms (k + 1) ++ [qq n ms k] := by
  have q0 := h.lt k (by omega) hk
  have qi := h.inv k (by omega) hk
  obtain ⟨y, hy⟩ : ∃ y : Nat, qq n ms k = y := ⟨(qq n ms k).toNat, by omega⟩
  rw [hy] at q0 qi hq ⊢
  obtain ⟨d, hd⟩ : ∃ d, k = y + 1 + d := ⟨k - (y + 1), by omega⟩
  have hr : List.range k = List.range y ++ [y] ++ (List.range d).map (y + 1 + ·) := by
    rw [hd, List.range_add, List.range_succ]
  have n1 : ∀ (P : Nat → Bool), (∀ r, y < r → r < k → P r = false) → List.filter P ((List.range d).map (y + 1 + ·)) = [] := by
    intro P hP
    rw [List.filter_eq_nil_iff]
    intro r hr'
    rw [List.mem_map] at hr'
    obtain ⟨a, ha, rfl⟩ := hr'
    rw [List.mem_range] at ha
    rw [hP _ (by omega) (by omega)]
    simp
  have nest : ∀ r : Nat, y < r → r < k → qq n ms r < k := by
    intro r h1 h2
    have := h.nest y r (by omega) (by omega) (by rw [qi]; omega) (by rw [qi]; omega)
    rw [qi] at this
    exact this.2
  unfold opens
  rw [List.range_succ, List.filter_append, List.map_append]
  have e1 : List.filter (fun p : Nat => decide (((k + 1 : Nat) : Int) ≤ qq n ms p)) [k] = [] := by
    rw [List.filter_cons_of_neg (by simp; omega), List.filter_nil]
  rw [e1, hr]
  simp only [List.filter_append]
  rw [n1 _ (fun r h1 h2 => by have := nest r h1 h2; simp; omega), n1 _ (fun r h1 h2 => by have := nest r h1 h2; simp; omega)]
  have e2 : List.filter (fun p : Nat => decide ((k : Int) ≤ qq n ms p)) [y] = [y] := by
    rw [List.filter_cons_of_pos (by simp; omega), List.filter_nil]
  have e3 : List.filter (fun p : Nat => decide (((k + 1 : Nat) : Int) ≤ qq n ms p)) [y] = [] := by
    rw [List.filter_cons_of_neg (by simp; omega), List.filter_nil]
  rw [e2, e3]
  have e4 : List.filter (fun p : Nat => decide ((k : Int) ≤ qq n ms p)) (List.range y) = List.filter (fun p : Nat => decide (((k + 1 : Nat) : Int) ≤ qq n ms p)) (List.range y) := by
    apply List.filter_congr
    intro p hp
    rw [List.mem_range] at hp
    have := h.inv p (by omega) (by omega)
    rw [decide_eq_decide]
    constructor
    · intro a
      rcases Int.lt_or_eq_of_le a with b | b
      · omega
      · rw [← b, hy] at this; omega
    · intro a; omega
  rw [e4]
  simp

theorem joinL_get (M : List Int) (hM : M.length = 16) (a b : Int) (ha : 0 ≤ a ∧ a < 16) (hb : 0 ≤ b ∧ b < 16) (i : Nat) : (joinL M a b).getD i 0 = if (i : Int) = b then a else if (i : Int) = a then b else M.getD i 0 := by
  have s1 : ∀ (l : List Int) (j : Nat) (v : Int), l.length = 16 → j < 16 → (l.set j v).getD i 0 = if i = j then v else l.getD i 0 := by
    intro l j v hl hj
    rw [List.getD_eq_getElem?_getD, List.getD_eq_getElem?_getD, List.getElem?_set]
    by_cases e : j = i
    · subst e; simp [hl, hj]
    · rw [if_neg e, if_neg (fun h => e h.symm)]
  unfold joinL
  rw [s1 _ _ _ (by rw [List.length_set]; exact hM) (by omega), s1 _ _ _ hM (by omega)]
  by_cases e1 : i = b.toNat
  · rw [if_pos e1, if_pos (by omega)]
  · rw [if_neg e1, if_neg (show ¬ (i : Int) = b by omega)]
    by_cases e2 : i = a.toNat
    · rw [if_pos e2, if_pos (show (i : Int) = a by omega)]
    · rw [if_neg e2, if_neg (show ¬ (i : Int) = a by omega)]
/-- Which mates are known behind k places. -/
def Known (n : Int) (ms : List Int) (k : Nat) (M : List Int) : Prop := M.length = 16 ∧ ∀ i : Nat, i < 16 → M.getD i 0 = if (i : Int) < 2 * n ∧ pl n i < k ∧ qq n ms (pl n i) < k then mate ms i else 0
theorem text_pst {n : Int} {ms : List Int} (h : Net n ms) (k : Nat) (hk : (k : Int) ≤ 2 * n) : ∃ M, pst n (textS n ms).data.toList k = some (M, opens n ms k) ∧ Known n ms k M := by
  have hn := h.bd
  induction k with
  | zero =>
    refine ⟨zeros, rfl, rfl, fun i hi => ?_⟩
    rw [if_neg]
    · unfold zeros; rw [List.getD_eq_getElem?_getD, List.getElem?_replicate, if_pos hi]; rfl
    · intro a
      have := pl_lt n i (by omega) a.1
      omega
  | succ k ih =>
    obtain ⟨M, hM, hlen, hkn⟩ := ih (by omega)
    have hk' : (k : Int) < 2 * n := by omega
    have q0 := h.lt k (by omega) hk'
    have qi := h.inv k (by omega) hk'
    have hc := text_get n ms k hk'
    by_cases hq : (k : Int) < qq n ms k
    · rw [if_pos hq] at hc
      refine ⟨M, by rw [pst_open _ _ _ _ _ hM hc, opens_up h k hk' hq], hlen, fun i hi => ?_⟩
      rw [hkn i hi]
      by_cases hin : (i : Int) < 2 * n
      · have b := pl_lt n i (by omega) hin
        have vi := h.inv (pl n i) b.1 b.2
        have e : ((i : Int) < 2 * n ∧ pl n i < k ∧ qq n ms (pl n i) < k) ↔ ((i : Int) < 2 * n ∧ pl n i < (k + 1 : Nat) ∧ qq n ms (pl n i) < (k + 1 : Nat)) := by
          constructor
          · intro a; omega
          · intro a
            have x1 : pl n i ≠ k := fun e => by rw [e] at a; omega
            have x2 : qq n ms (pl n i) ≠ k := fun e => by rw [e] at vi; omega
            omega
        simp only [e]
      · rw [if_neg (by omega), if_neg (by omega)]
    · have hq' : qq n ms k < k := by omega
      rw [if_neg hq] at hc
      rw [opens_down h k hk' hq'] at hM
      have by' := pl_bd n (qq n ms k) hn.2 q0.1 q0.2.1
      have bk := pl_bd n k hn.2 (by omega) hk'
      refine ⟨_, pst_close _ _ _ _ _ _ hM hc, by rw [joinL_len]; exact hlen, fun i hi => ?_⟩
      rw [joinL_get M hlen _ _ ⟨by'.1, by'.2.2⟩ ⟨bk.1, bk.2.2⟩ i]
      by_cases e1 : (i : Int) = pl n k
      · rw [if_pos e1]
        have p1 : pl n i = k := by rw [e1, pl_pl n k (by omega) hk']
        rw [if_pos ⟨by rw [e1]; omega, by rw [p1]; omega, by rw [p1]; omega⟩, e1, h.mt k (by omega) hk']
      · rw [if_neg e1]
        by_cases e2 : (i : Int) = pl n (qq n ms k)
        · rw [if_pos e2]
          have p1 : pl n i = qq n ms k := by rw [e2, pl_pl n _ q0.1 q0.2.1]
          rw [if_pos ⟨by rw [e2]; omega, by rw [p1]; omega, by rw [p1, qi]; omega⟩, e2, h.mt _ q0.1 q0.2.1, qi]
        · rw [if_neg e2, hkn i hi]
          by_cases hin : (i : Int) < 2 * n
          · have b := pl_lt n i (by omega) hin
            have vi := h.inv (pl n i) b.1 b.2
            have pp := pl_pl n i (by omega) hin
            have e : ((i : Int) < 2 * n ∧ pl n i < k ∧ qq n ms (pl n i) < k) ↔ ((i : Int) < 2 * n ∧ pl n i < (k + 1 : Nat) ∧ qq n ms (pl n i) < (k + 1 : Nat)) := by
              constructor
              · intro a; omega
              · intro a
                have x1 : pl n i ≠ k := fun e => e1 (by rw [← e, pp])
                have x2 : qq n ms (pl n i) ≠ k := fun e => e2 (by rw [← e, vi, pp])
                omega
            simp only [e]
          · rw [if_neg (by omega), if_neg (by omega)]
theorem parse_text {n : Int} {ms : List Int} (hms : ms.length = 16) (h : Net n ms) : parse (textS n ms).data.toList = some (n, ms) := by
  have hn := h.bd
  have hl := text_len n ms (by omega)
  obtain ⟨M, hM, hlen, hkn⟩ := text_pst h (textS n ms).data.toList.length (by omega)
  have ho : opens n ms (textS n ms).data.toList.length = [] := by
    unfold opens
    rw [List.map_eq_nil_iff, List.filter_eq_nil_iff]
    intro p hp
    rw [List.mem_range] at hp
    have := h.lt p (by omega) (by omega)
    intro hd
    rw [decide_eq_true_iff] at hd
    omega
  have hE : M = ms := by
    apply List.ext_getElem (by omega)
    intro i h1 h2
    have e := hkn i (by omega)
    have g1 : M.getD i 0 = M[i] := by rw [List.getD_eq_getElem?_getD, List.getElem?_eq_getElem h1]; rfl
    have g2 : mate ms i = ms[i] := by rw [mate_nat, List.getD_eq_getElem?_getD, List.getElem?_eq_getElem h2]; rfl
    rw [g1] at e
    rw [e]
    by_cases hin : (i : Int) < 2 * n
    · have b := pl_lt n i (by omega) hin
      have q := h.lt _ b.1 b.2
      rw [if_pos ⟨hin, by omega, by omega⟩, g2]
    · rw [if_neg (by omega), ← g2, h.out i (by omega) (by omega)]
  rw [ho, hE] at hM
  exact parse_some _ n hl hn.1 hn.2 ms hM
end Go.Proofs.Ytdmgmhjclagnpaa
