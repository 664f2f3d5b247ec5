/- Plain mathematics: how many diagrams with blobs there are. -/
import Derived.Test.YtpjlienelkflhaaApd
namespace Go.Proofs.Ytpjlienelkflhaa
open Go.RowKit
set_option linter.unusedVariables false
set_option linter.unusedSimpArgs false
theorem joinL_bytesC {ms : List Int} (h : Bytes ms) (i j : Int) (hi : 0 ≤ i ∧ i ≤ 255) (hj : 0 ≤ j ∧ j ≤ 255) : Bytes (joinL ms i j) := by
  intro x hx
  unfold joinL at hx
  rcases List.mem_or_eq_of_mem_set hx with hx | rfl
  · rcases List.mem_or_eq_of_mem_set hx with hx | rfl
    · exact h x hx
    · exact hj
  · exact hi
theorem pst_bytesC (n : Int) (l : List UInt8) (h0 : 0 ≤ n) (h8 : n ≤ 8) (k : Nat) (hk : (k : Int) ≤ 2 * n) (ms o : List Int) (h : pst n l k = some (ms, o)) : Bytes ms := by
  induction k generalizing ms o with
  | zero =>
    simp [pst] at h; obtain ⟨rfl, rfl⟩ := h
    intro x hx; unfold zeros at hx; rw [List.mem_replicate] at hx; omega
  | succ k ih =>
    unfold pst at h
    cases hp : pst n l k with
    | none => rw [hp] at h; simp at h
    | some q =>
      obtain ⟨ms', o'⟩ := q
      have h1 := ih (by omega) ms' o' hp
      have h2 := (pst_len _ _ _ _ _ hp).2.2
      rw [hp] at h
      simp only at h
      split at h
      · simp at h; obtain ⟨rfl, rfl⟩ := h; exact h1
      · split at h
        · cases hl : o'.getLast? with
          | none => rw [hl] at h; simp at h
          | some y =>
            rw [hl] at h; simp at h; obtain ⟨rfl, rfl⟩ := h
            have hy := h2 y (List.mem_of_getLast? hl)
            have a := pl_bd n y h8 hy.1 (by omega)
            have b := pl_bd n k h8 (by omega) (by omega)
            exact joinL_bytesC h1 _ _ (by omega) (by omega)
        · simp at h
theorem parse_bytesC (l : List UInt8) (n : Int) (ms : List Int) (h : parse l = some (n, ms)) : Bytes ms := by
  unfold parse at h
  split at h
  · rename_i hb
    split at h
    · rename_i M hp
      simp at h; obtain ⟨e, rfl⟩ := h
      exact pst_bytesC _ _ (by omega) hb.2.2 _ (by omega) _ _ hp
    · simp at h
  · simp at h
/-- How many parts a text has, and how many brackets are open at its end. -/
def stF (q : Nat × Int) (x : UInt8) : Nat × Int := if q.2 + stp (x.toNat : Nat) = 0 then (q.1 + 1, 0) else (q.1, q.2 + stp (x.toNat : Nat))
def ptF (t : List UInt8) : Nat × Int := t.foldl stF (0, 0)
theorem ptF_app (t : List UInt8) (x : UInt8) : ptF (t ++ [x]) = stF (ptF t) x := by unfold ptF; rw [List.foldl_append]; rfl
theorem ptF_cut (t : List UInt8) (k : Nat) (hk : k ≤ t.length) : ptF (t.take k) = ((cutP (LI t) k).1.length, (cutP (LI t) k).2.2) := by
  induction k with
  | zero => rfl
  | succ k ih =>
    have hlt : k < t.length := by omega
    have e : t.take (k + 1) = t.take k ++ [t[k]] := by rw [List.take_add_one, List.getElem?_eq_getElem hlt]; rfl
    have e2 : (LI t).getD k 0 = ((t[k].toNat : Nat) : Int) := by
      unfold LI
      rw [List.getD_eq_getElem?_getD, List.getElem?_map, List.getElem?_eq_getElem hlt]; rfl
    rw [e, ptF_app, ih (by omega), stF, cutP, e2]
    simp only
    split <;> simp
/-- What the texts that begin with o open brackets count, r letters being left. -/
def cS : Nat → Nat → Nat
  | 0, _ => 1
  | r + 1, o => (if o < r + 1 then cS r (o + 1) else 0) + (if 0 < o then (if o = 1 then 2 else 1) * cS r (o - 1) else 0)
theorem sum_dts (r : Nat) : ∀ (o : Nat) (t : List UInt8) (c : Nat), ptF t = (c, (o : Int)) → ((dts r o t).map (fun t => 2 ^ (ptF t).1)).sum = 2 ^ c * cS r o := by
  induction r with
  | zero => intro o t c h; simp [dts, cS, h]
  | succ r ih =>
    intro o t c h
    have hA : ((if o < r + 1 then dts r (o + 1) (t ++ [40]) else []).map (fun t => 2 ^ (ptF t).1)).sum = 2 ^ c * (if o < r + 1 then cS r (o + 1) else 0) := by
      split
      · refine ih (o + 1) _ c ?_
        rw [ptF_app, h, stF]
        have : stp (((40 : UInt8).toNat : Nat) : Int) = 1 := by decide
        rw [this]
        simp only
        rw [if_neg (by omega)]
        simp
      · simp
    have hB : ((if 0 < o then dts r (o - 1) (t ++ [41]) else []).map (fun t => 2 ^ (ptF t).1)).sum = 2 ^ c * (if 0 < o then (if o = 1 then 2 else 1) * cS r (o - 1) else 0) := by
      split
      · rename_i ho
        have h41 : stp (((41 : UInt8).toNat : Nat) : Int) = -1 := by decide
        by_cases e : o = 1
        · subst e
          rw [if_pos rfl, ih 0 _ (c + 1) (by rw [ptF_app, h, stF, h41]; rfl), Nat.pow_succ, Nat.mul_assoc]
        · rw [if_neg e, ih (o - 1) _ c (by rw [ptF_app, h, stF, h41]; simp only; rw [if_neg (by omega)]; exact Prod.ext rfl (by simp only; omega)), Nat.one_mul]
      · simp
    rw [dts_step, List.map_append, List.sum_append, hA, hB, cS, Nat.mul_add]
theorem dts_mem (r : Nat) : ∀ (o : Nat) (t x : List UInt8), x ∈ dts r o t → x.length = t.length + r := by
  induction r with
  | zero => intro o t x h; simp [dts] at h; subst h; rfl
  | succ r ih =>
    intro o t x h
    rw [dts_step, List.mem_append] at h
    rcases h with h | h
    · split at h
      · have := ih _ _ _ h; simp at this; omega
      · simp at h
    · split at h
      · have := ih _ _ _ h; simp at this; omega
      · simp at h
def readB (n : Nat) (t : List UInt8) : Bool := match parse t with | some q => q.1 == (n : Int) | none => false
set_option maxRecDepth 100000 in
theorem dts_read (n : Nat) (h1 : 1 ≤ n) (h8 : n ≤ 8) : (dts (2 * n) 0 []).all (readB n) = true := by
  have h : n = 1 ∨ n = 2 ∨ n = 3 ∨ n = 4 ∨ n = 5 ∨ n = 6 ∨ n = 7 ∨ n = 8 := by omega
  rcases h with rfl | rfl | rfl | rfl | rfl | rfl | rfl | rfl <;> decide +kernel
/-- What every diagram of the list is. -/
structure Dgm (n : Int) (d : DgR) : Prop where
  size : d.1 = n
  len : d.2.length = 16
  bytes : Bytes d.2
  isD : isD d.1 d.2 = true
theorem dgm_of (n : Nat) (h1 : 1 ≤ n) (h8 : n ≤ 8) (t : List UInt8) (h : t ∈ dts (2 * n) 0 []) : Dgm n (pD t) ∧ parse t = some (pD t) := by
  have hr := List.all_eq_true.1 (dts_read n h1 h8) t h
  unfold readB at hr
  unfold pD
  cases hp : parse t with
  | none => rw [hp] at hr; simp at hr
  | some q =>
    obtain ⟨m, ms⟩ := q
    rw [hp] at hr
    simp only [beq_iff_eq] at hr
    have hl := parse_len t m ms hp
    have hb := parse_bytesC t m ms hp
    exact ⟨⟨hr, hl, hb, (isD_iff m ms hl hb).2 (parse_isS t m ms hp)⟩, rfl⟩
/-- How many lines of such a diagram are open. -/
theorem opl_pt (n : Nat) (h1 : 1 ≤ n) (h8 : n ≤ 8) (t : List UInt8) (h : t ∈ dts (2 * n) 0 []) : (opl (pD t).1 (pD t).2).length = (ptF t).1 := by
  obtain ⟨hd, hp⟩ := dgm_of n h1 h8 t h
  have hl := dts_mem _ _ _ _ h
  have hn := net_of _ _ hd.len hd.bytes hd.isD
  rcases hq : pD t with ⟨m, ms⟩
  rw [hq] at hp hd hn
  have hm : m = (n : Int) := hd.size
  subst hm
  have e : LT n ms = LI t := by
    apply List.ext_getElem?
    intro k
    by_cases hk : k < 2 * n
    · have a := LT_get (n : Int) ms k (by omega)
      have b := parse_get t (n : Int) ms hp k (by omega)
      have la : k < (LT n ms).length := by rw [LT_len _ _ (by omega)]; omega
      have lb : k < (LI t).length := by rw [LI_len, hl]; simp; exact hk
      rw [List.getD_eq_getElem?_getD, List.getElem?_eq_getElem la] at a
      rw [List.getElem?_eq_getElem la]
      have c : (LI t)[k]? = some (((if (k : Int) < qq n ms k then (40 : UInt8) else 41).toNat : Nat) : Int) := by
        unfold LI; rw [List.getElem?_map, b]; rfl
      rw [c]
      simp only [Option.getD_some] at a
      rw [a]
      split <;> rfl
    · rw [List.getElem?_eq_none (by rw [LT_len _ _ (by omega)]; omega), List.getElem?_eq_none (by rw [LI_len, hl]; simp; omega)]
  have h2 : (opl n ms).length = (cutP (LT n ms) (2 * (n : Int)).toNat).1.length := by rw [← opl_cut hn, List.length_map]
  have e3 : (2 * (n : Int)).toNat = t.length := by rw [hl, List.length_nil]; omega
  have h4 := ptF_cut t t.length (Nat.le_refl _)
  rw [List.take_length] at h4
  rw [h2, e, e3, h4]
/-- What the first k diagrams count. -/
def gS (ds : List DgR) (k : Nat) : Nat := ((ds.take k).map (fun d => 2 ^ (opl d.1 d.2).length)).sum
theorem gS_succ (ds : List DgR) (k : Nat) (h : k < ds.length) : gS ds (k + 1) = gS ds k + 2 ^ (opl (ds.getD k (0, zeros)).1 (ds.getD k (0, zeros)).2).length := by
  unfold gS
  rw [List.take_add_one, List.getElem?_eq_getElem h, List.map_append, List.sum_append, List.getD_eq_getElem?_getD, List.getElem?_eq_getElem h]
  simp
theorem gS_all (n : Nat) (h1 : 1 ≤ n) (h8 : n ≤ 8) : gS (allD n) (allD n).length = cS (2 * n) 0 := by
  unfold gS
  rw [List.take_length]
  unfold allD
  rw [List.map_map]
  have := sum_dts (2 * n) 0 [] 0 rfl
  rw [Nat.pow_zero, Nat.one_mul] at this
  rw [← this]
  congr 1
  apply List.map_congr_left
  intro t ht
  simp only [Function.comp_apply]
  rw [opl_pt n h1 h8 t ht]
theorem allD_len (n : Nat) (h1 : 1 ≤ n) (h8 : n ≤ 8) : (allD n).length ≤ 1430 := by unfold allD; rw [List.length_map]; exact dts_len n h1 h8
theorem allD_get (n : Nat) (h1 : 1 ≤ n) (h8 : n ≤ 8) (k : Nat) (h : k < (allD n).length) : Dgm n ((allD n).getD k (0, zeros)) := by
  rw [List.getD_eq_getElem?_getD, List.getElem?_eq_getElem h]
  have hm := List.getElem_mem h
  unfold allD at hm
  rw [List.mem_map] at hm
  obtain ⟨t, ht, he⟩ := hm
  have := (dgm_of n h1 h8 t ht).1
  rw [he] at this
  exact this
theorem opl_le (n : Int) (ms : List Int) (h8 : n ≤ 8) : (opl n ms).length ≤ 16 := by
  unfold opl
  rw [List.length_map]
  unfold starts
  have := List.length_filter_le (fun s => (opens n ms s).isEmpty) (List.range (2 * n).toNat)
  rw [List.length_range] at this
  omega
theorem gS_bd (n : Nat) (h1 : 1 ≤ n) (h8 : n ≤ 8) (k : Nat) (h : k ≤ (allD n).length) : gS (allD n) k ≤ 65536 * k := by
  induction k with
  | zero => simp [gS]
  | succ k ih =>
    rw [gS_succ _ _ (by omega)]
    have hd := allD_get n h1 h8 k (by omega)
    have : 2 ^ (opl ((allD n).getD k (0, zeros)).1 ((allD n).getD k (0, zeros)).2).length ≤ 2 ^ 16 := Nat.pow_le_pow_right (by omega) (opl_le _ _ (by rw [hd.size]; omega))
    have := ih (by omega)
    omega
end Go.Proofs.Ytpjlienelkflhaa
