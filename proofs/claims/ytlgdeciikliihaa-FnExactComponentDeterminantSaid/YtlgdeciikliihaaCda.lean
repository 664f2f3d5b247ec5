/- Elimination of rows, plain: the program's way and the model's. A table in memory: headers of rows in one block, all numbers in another one; its rows read, scaled, and added. A table in memory: a row scaled, a multiple of a row added to another one. A step of the elimination on all rows, plain. The model's elimination: its table in memory, and its steps, plain. -/
import Derived.Test.YtlgdeciikliihaaNum
import Derived.Test.YtlgdeciikliihaaSl
import Derived.Test.YtlgdeciikliihaaOnS
import Derived.Deep.CutRange
import Derived.Test.YtlgdeciikliihaaMark
namespace Go.Proofs.Ytlgdeciikliihaa
open Go.RowKit
set_option linter.unusedVariables false
set_option linter.unusedSimpArgs false
/-- The place of the first number other than 0. -/
def ff : List Int → Nat
  | [] => 0
  | x :: xs => if x = 0 then ff xs + 1 else 0
theorem ff_le (r : List Int) : ff r ≤ r.length := by
  induction r with
  | nil => simp [ff]
  | cons x xs ih => unfold ff; split <;> simp <;> omega
theorem ff_zero (r : List Int) : ∀ j, j < ff r → r.getD j 0 = 0 := by
  induction r with
  | nil => intro j h; simp [ff] at h
  | cons x xs ih =>
    intro j h
    unfold ff at h
    split at h
    · rename_i hx
      cases j with
      | zero => simpa using hx
      | succ j => simpa using ih j (by omega)
    · omega
theorem ff_at (r : List Int) (h : ff r < r.length) : r.getD (ff r) 0 ≠ 0 := by
  induction r with
  | nil => simp [ff] at h
  | cons x xs ih =>
    unfold ff at h ⊢
    split
    · rename_i hx
      rw [if_pos hx] at h
      simpa using ih (by simpa using h)
    · rename_i hx
      simpa using hx
theorem ff_ge (r : List Int) (c : Nat) (hc : c ≤ r.length) (h : ∀ j, j < c → r.getD j 0 = 0) : c ≤ ff r := by
  by_cases hx : c ≤ ff r
  · exact hx
  · have := ff_at r (by omega)
    exact absurd (h (ff r) (by omega)) this
/-- A row of a list. -/
def rw' (T : List (List Int)) (i : Nat) : List Int := T.getD i []
/-- The least place's first row, among the first k. -/
def lst (T : List (List Int)) : Nat → Nat
  | 0 => 0
  | k + 1 => if ff (rw' T k) < ff (rw' T (lst T k)) then k else lst T k
theorem lst_lt (T : List (List Int)) (k : Nat) (hk : 0 < k) : lst T k < k := by
  induction k with
  | zero => omega
  | succ k ih =>
    unfold lst
    split
    · omega
    · by_cases h : 0 < k
      · have := ih h; omega
      · have : k = 0 := by omega
        subst this; simp [lst]
theorem lst_min (T : List (List Int)) (k : Nat) : ∀ i, i < k → ff (rw' T (lst T k)) ≤ ff (rw' T i) := by
  induction k with
  | zero => intro i h; omega
  | succ k ih =>
    intro i h
    unfold lst
    split
    · rename_i hlt
      by_cases e : i = k
      · subst e; exact Nat.le_refl _
      · have := ih i (by omega); omega
    · by_cases e : i = k
      · subst e; omega
      · exact ih i (by omega)
theorem lst_first (T : List (List Int)) (k : Nat) : ∀ i, i < lst T k → ff (rw' T (lst T k)) < ff (rw' T i) := by
  induction k with
  | zero => intro i h; simp [lst] at h
  | succ k ih =>
    intro i h
    unfold lst at h ⊢
    split
    · rename_i hlt
      rw [if_pos hlt] at h
      have := lst_min T k i h
      omega
    · rename_i hlt
      rw [if_neg hlt] at h
      exact ih i h
/-- The first row, from the place k on, with another number than 0 in the column c; f rows are left. -/
def bst (T : List (List Int)) (c : Nat) : Nat → Nat → Nat
  | 0, k => k
  | f + 1, k => if (rw' T k).getD c 0 = 0 then bst T c f (k + 1) else k
theorem bst_bd (T : List (List Int)) (c f k : Nat) : k ≤ bst T c f k ∧ bst T c f k ≤ k + f := by
  induction f generalizing k with
  | zero => simp [bst]
  | succ f ih => unfold bst; split; · have := ih (k + 1); omega
                 · omega
theorem bst_zero (T : List (List Int)) (c f k : Nat) : ∀ i, k ≤ i → i < bst T c f k → (rw' T i).getD c 0 = 0 := by
  induction f generalizing k with
  | zero => intro i h1 h2; simp [bst] at h2; omega
  | succ f ih =>
    intro i h1 h2
    unfold bst at h2
    split at h2
    · rename_i hz
      by_cases e : i = k
      · subst e; exact hz
      · exact ih (k + 1) i (by omega) h2
    · omega
theorem bst_at (T : List (List Int)) (c f k : Nat) (h : bst T c f k < k + f) : (rw' T (bst T c f k)).getD c 0 ≠ 0 := by
  induction f generalizing k with
  | zero => simp [bst] at h
  | succ f ih =>
    unfold bst at h ⊢
    split
    · rename_i hz
      rw [if_pos hz] at h
      exact ih (k + 1) (by omega)
    · rename_i hz; exact hz
/-- A row with a multiple of another one taken away. -/
def red (p : Int) (n c : Nat) (rc : Int) (own row : List Int) : List Int := (List.range n).map (fun j => (row.getD j 0 - (row.getD c 0 * rc % p) * own.getD j 0) % p)
theorem red_len (p : Int) (n c : Nat) (rc : Int) (own row : List Int) : (red p n c rc own row).length = n := by simp [red]
theorem red_get (p : Int) (n c : Nat) (rc : Int) (own row : List Int) (j : Nat) (h : j < n) : (red p n c rc own row).getD j 0 = (row.getD j 0 - (row.getD c 0 * rc % p) * own.getD j 0) % p := by
  simp [red, List.getD_eq_getElem?_getD, h]
/-- The rows behind the first, once the row b is exchanged with it and taken away from them. -/
def nxtR (p : Int) (n c b : Nat) (T : List (List Int)) : List (List Int) := ((T.set b (rw' T 0)).drop 1).map (red p n c (rcp p ((rw' T b).getD c 0)) (rw' T b))
theorem nxtR_len (p : Int) (n c b : Nat) (T : List (List Int)) : (nxtR p n c b T).length = T.length - 1 := by simp [nxtR]
theorem nxtR_get (p : Int) (n c b : Nat) (T : List (List Int)) (i : Nat) (hi : i + 1 < T.length) : rw' (nxtR p n c b T) i = red p n c (rcp p ((rw' T b).getD c 0)) (rw' T b) (if i + 1 = b then rw' T 0 else rw' T (i + 1)) := by
  show (nxtR p n c b T).getD i [] = _
  unfold nxtR
  rw [List.getD_eq_getElem?_getD, List.getElem?_map, List.getElem?_drop, Nat.add_comm 1 i, List.getElem?_set]
  by_cases h : i + 1 = b
  · subst h
    rw [if_pos rfl, if_pos hi, if_pos rfl]; rfl
  · rw [if_neg (fun e => h e.symm), if_neg h, List.getElem?_eq_getElem hi]
    show red _ _ _ _ _ T[i + 1] = _
    congr 1
    show T[i + 1] = T.getD (i + 1) []
    rw [List.getD_eq_getElem?_getD, List.getElem?_eq_getElem hi]; rfl
/-- All rows have n numbers modulo p, and none in the first c columns but 0. -/
structure RowsOk (p : Int) (n c : Nat) (T : List (List Int)) : Prop where
  len : ∀ i, i < T.length → (rw' T i).length = n
  bd : ∀ i j, i < T.length → j < n → 0 ≤ (rw' T i).getD j 0 ∧ (rw' T i).getD j 0 < p
  zr : ∀ i j, i < T.length → j < c → (rw' T i).getD j 0 = 0
theorem next_ok {p : Int} {n c b : Nat} {T : List (List Int)} (hp : primeB p = true) (h : RowsOk p n c T) (hb : b < T.length) (hc : c < n) (hv : (rw' T b).getD c 0 ≠ 0) : RowsOk p n (c + 1) (nxtR p n c b T) := by
  obtain ⟨p2, p97⟩ := primeB_two hp
  have v := h.bd b c hb hc
  have hm := rcp_mul p ((rw' T b).getD c 0) hp (by omega) v.2
  refine ⟨fun i hi => ?_, fun i j hi hj => ?_, fun i j hi hj => ?_⟩
  · rw [nxtR_len] at hi
    rw [nxtR_get _ _ _ _ _ _ (by omega), red_len]
  · rw [nxtR_len] at hi
    rw [nxtR_get _ _ _ _ _ _ (by omega), red_get _ _ _ _ _ _ _ hj]
    exact ⟨Int.emod_nonneg _ (by omega), Int.emod_lt_of_pos _ (by omega)⟩
  · rw [nxtR_len] at hi
    rw [nxtR_get _ _ _ _ _ _ (by omega), red_get _ _ _ _ _ _ _ (by omega)]
    generalize hrow : (if i + 1 = b then rw' T 0 else rw' T (i + 1)) = row
    have hz : ∀ j, j < c → row.getD j 0 = 0 := fun j hj => by
      rw [← hrow]
      split
      · exact h.zr 0 j (by omega) hj
      · exact h.zr (i + 1) j (by omega) hj
    by_cases e : j = c
    · subst e
      generalize (rw' T b).getD j 0 = o at *
      generalize row.getD j 0 = x at *
      generalize rcp p o = rc at *
      have e1 : (x * rc % p * o) % p = x % p := by
        rw [Int.mul_emod, Int.emod_emod, ← Int.mul_emod, Int.mul_assoc, Int.mul_emod, Int.mul_comm rc o, hm]
        rw [Int.mul_one, Int.emod_emod]
      rw [Int.sub_emod, e1, Int.sub_self, Int.zero_emod]
    · rw [hz j (by omega), h.zr b j hb (by omega)]
      simp
theorem up_ok {p : Int} {n c : Nat} {T : List (List Int)} (h : RowsOk p n c T) (hz : ∀ i, i < T.length → (rw' T i).getD c 0 = 0) : RowsOk p n (c + 1) T :=
  ⟨h.len, h.bd, fun i j hi hj => by
    by_cases e : j = c
    · subst e; exact hz i hi
    · exact h.zr i j hi (by omega)⟩
theorem less_ok {p : Int} {n c c' : Nat} {T : List (List Int)} (h : RowsOk p n c T) (hz : ∀ i j, i < T.length → j < c' → (rw' T i).getD j 0 = 0) : RowsOk p n c' T := ⟨h.len, h.bd, hz⟩
/-- The number that a step multiplies with. -/
def stF (p : Int) (b : Nat) (fct v : Int) : Int := (if b = 0 then fct else -fct) * v % p
/-- The program's determinant, and its rank. -/
def resI (p : Int) (n : Nat) : Nat → List (List Int) → Int → Int
  | 0, _, fct => fct
  | k + 1, T, fct => if ff (rw' T (lst T (k + 1))) = n then 0 else resI p n k (nxtR p n (ff (rw' T (lst T (k + 1)))) (lst T (k + 1)) T) (stF p (lst T (k + 1)) fct ((rw' T (lst T (k + 1))).getD (ff (rw' T (lst T (k + 1)))) 0))
def rkI (p : Int) (n : Nat) : Nat → List (List Int) → Nat → Nat
  | 0, _, r => r
  | k + 1, T, r => if ff (rw' T (lst T (k + 1))) = n then r else rkI p n k (nxtR p n (ff (rw' T (lst T (k + 1)))) (lst T (k + 1)) T) (r + 1)
/-- The model's, with f columns left. -/
def resM (p : Int) (n : Nat) : Nat → List (List Int) → Int → Int
  | 0, _, det => det
  | f + 1, T, det => if bst T (n - (f + 1)) T.length 0 = T.length then resM p n f T 0 else resM p n f (nxtR p n (n - (f + 1)) (bst T (n - (f + 1)) T.length 0) T) (stF p (bst T (n - (f + 1)) T.length 0) det ((rw' T (bst T (n - (f + 1)) T.length 0)).getD (n - (f + 1)) 0))
def rkM (p : Int) (n : Nat) : Nat → List (List Int) → Nat → Nat
  | 0, _, r => r
  | f + 1, T, r => if bst T (n - (f + 1)) T.length 0 = T.length then rkM p n f T r else rkM p n f (nxtR p n (n - (f + 1)) (bst T (n - (f + 1)) T.length 0) T) (r + 1)
theorem pick_same {p : Int} {n c : Nat} {T : List (List Int)} (h : RowsOk p n c T) (hc : c < n) (hb : bst T c T.length 0 < T.length) : lst T T.length = bst T c T.length 0 ∧ ff (rw' T (lst T T.length)) = c := by
  have hv := bst_at T c T.length 0 (by omega)
  have h0 : 0 < T.length := by omega
  have hl := lst_lt T T.length h0
  have ge : ∀ i, i < T.length → c ≤ ff (rw' T i) := fun i hi => ff_ge _ c (by rw [h.len i hi]; omega) (fun j hj => h.zr i j hi hj)
  have hbf : ff (rw' T (bst T c T.length 0)) = c := by
    have h1 := ge _ hb
    by_cases e : c < ff (rw' T (bst T c T.length 0))
    · exact absurd (ff_zero _ c e) hv
    · omega
  have hm := lst_min T T.length _ hb
  have hg := ge _ hl
  have hfc : ff (rw' T (lst T T.length)) = c := by omega
  refine ⟨?_, hfc⟩
  rcases Nat.lt_trichotomy (lst T T.length) (bst T c T.length 0) with hlt | he | hgt
  · have hz := bst_zero T c T.length 0 _ (Nat.zero_le _) hlt
    have := ff_at (rw' T (lst T T.length)) (by rw [hfc, h.len _ hl]; exact hc)
    rw [hfc] at this
    exact absurd hz this
  · exact he
  · have := lst_first T T.length _ hgt
    omega
theorem all_zero {c : Nat} {T : List (List Int)} (h : bst T c T.length 0 = T.length) : ∀ i, i < T.length → (rw' T i).getD c 0 = 0 := fun i hi => bst_zero T c T.length 0 i (Nat.zero_le _) (by omega)
theorem low_zero {p : Int} {n c : Nat} {T : List (List Int)} (h : RowsOk p n c T) : ∀ i j, i < T.length → j < ff (rw' T (lst T T.length)) → (rw' T i).getD j 0 = 0 := fun i j hi hj => ff_zero _ j (Nat.lt_of_lt_of_le hj (lst_min T T.length i hi))
/-- With more rows than columns are left the determinant is 0. -/
theorem resI_zero {p : Int} {n : Nat} (hp : primeB p = true) (k : Nat) : ∀ (c : Nat) (T : List (List Int)) (fct : Int), T.length = k → c ≤ n → n - c < k → RowsOk p n c T → resI p n k T fct = 0 := by
  induction k with
  | zero => intro c T fct _ _ h; omega
  | succ k ih =>
    intro c T fct hT hc hk h
    unfold resI
    rw [← hT]
    have hl := lst_lt T T.length (by omega)
    split
    · rfl
    · rename_i hne
      have hle := ff_le (rw' T (lst T T.length))
      rw [h.len _ hl] at hle
      have hge : c ≤ ff (rw' T (lst T T.length)) := ff_ge _ c (by rw [h.len _ hl]; exact hc) (fun j hj => h.zr _ j hl hj)
      have hv := ff_at (rw' T (lst T T.length)) (by rw [h.len _ hl]; omega)
      exact ih (ff (rw' T (lst T T.length)) + 1) _ _ (by rw [nxtR_len]; omega) (by omega) (by omega) (next_ok hp (less_ok h (low_zero h)) hl (by omega) hv)
theorem resM_zero {p : Int} {n : Nat} (f : Nat) : ∀ T, resM p n f T 0 = 0 := by
  induction f with
  | zero => intro T; rfl
  | succ f ih =>
    intro T
    unfold resM
    split
    · exact ih T
    · have : ∀ b v, stF p b 0 v = 0 := fun b v => by unfold stF; split <;> simp
      rw [this]; exact ih _
theorem res_same {p : Int} {n : Nat} (hp : primeB p = true) (f : Nat) : ∀ (T : List (List Int)) (d : Int), f ≤ n → T.length = f → RowsOk p n (n - f) T → resI p n f T d = resM p n f T d := by
  induction f with
  | zero => intro T d _ _ _; rfl
  | succ f ih =>
    intro T d hf hT h
    have hc : n - (f + 1) < n := by omega
    unfold resM
    by_cases hb : bst T (n - (f + 1)) T.length 0 = T.length
    · rw [if_pos hb, resM_zero]
      have h2 := up_ok h (all_zero hb)
      exact resI_zero hp (f + 1) (n - (f + 1) + 1) T d hT (by omega) (by omega) h2
    · have hb' : bst T (n - (f + 1)) T.length 0 < T.length := by have := bst_bd T (n - (f + 1)) T.length 0; omega
      obtain ⟨e1, e2⟩ := pick_same h hc hb'
      have hv := bst_at T (n - (f + 1)) T.length 0 (by omega)
      rw [if_neg hb]
      unfold resI
      rw [← hT, e2, e1, if_neg (by omega)]
      have hn := next_ok hp h hb' hc hv
      rw [hT] at hn ⊢
      exact ih _ _ (by omega) (by rw [nxtR_len]; omega) (by rw [show n - f = n - (f + 1) + 1 by omega]; exact hn)
end Go.Proofs.Ytlgdeciikliihaa
namespace Go.Proofs.Ytlgdeciikliihaa
open Go.RowKit
set_option linter.unusedVariables false
set_option linter.unusedSimpArgs false
def hdr (g n : Nat) (os : List Nat) : Array Value := (os.map (fun o => Value.slice (some ⟨g, o, none⟩) n n)).toArray
theorem hdr_get (g n : Nat) (os : List Nat) (i : Nat) (h : i < os.length) : (hdr g n os)[i]? = some (.slice (some ⟨g, os.getD i 0, none⟩) n n) := by
  simp [hdr, h]
theorem hdr_set (g n : Nat) (os : List Nat) (i o : Nat) : (hdr g n os).setIfInBounds i (.slice (some ⟨g, o, none⟩) n n) = hdr g n (os.set i o) := by simp [hdr, List.map_set]
/-- Rows at their places in one list of numbers, none in the other's way. -/
structure Lay (N n : Nat) (os : List Nat) (ns : List Int) (R : List (List Int)) : Prop where
  lo : os.length = N
  lr : R.length = N
  len : ∀ i, i < N → (rw' R i).length = n
  room : ∀ i, i < N → os.getD i 0 + n ≤ ns.length
  apart : ∀ i j, i < N → j < N → i ≠ j → os.getD i 0 + n ≤ os.getD j 0 ∨ os.getD j 0 + n ≤ os.getD i 0
  at_ : ∀ i j, i < N → j < n → ns.getD (os.getD i 0 + j) 0 = (rw' R i).getD j 0
theorem rw'_set (R : List (List Int)) (i k : Nat) (r : List Int) (h : i < R.length) : rw' (R.set i r) k = if k = i then r else rw' R k := by
  unfold rw'
  rw [List.getD_eq_getElem?_getD, List.getElem?_set]
  by_cases e : i = k
  · subst e; simp [h]
  · rw [if_neg e, if_neg (fun x => e x.symm), List.getD_eq_getElem?_getD]
theorem getD_set (l : List Int) (i j : Nat) (x : Int) (h : i < l.length) : (l.set i x).getD j 0 = if j = i then x else l.getD j 0 := by
  rw [List.getD_eq_getElem?_getD, List.getElem?_set]
  by_cases e : i = j
  · subst e; simp [h]
  · rw [if_neg e, if_neg (fun x => e x.symm), List.getD_eq_getElem?_getD]
/-- One number is written. -/
theorem Lay.put {N n : Nat} {os : List Nat} {ns : List Int} {R : List (List Int)} (h : Lay N n os ns R) (i j : Nat) (x : Int) (hi : i < N) (hj : j < n) : Lay N n os (ns.set (os.getD i 0 + j) x) (R.set i ((rw' R i).set j x)) := by
  have hR : i < R.length := by rw [h.lr]; exact hi
  have hb := h.room i hi
  refine ⟨h.lo, by rw [List.length_set]; exact h.lr, fun k hk => ?_, fun k hk => by rw [List.length_set]; exact h.room k hk, h.apart, fun k l hk hl => ?_⟩
  · rw [rw'_set _ _ _ _ hR]
    split
    · rw [List.length_set]; exact h.len i hi
    · exact h.len k hk
  · rw [rw'_set _ _ _ _ hR, getD_set _ _ _ _ (by omega)]
    by_cases e : k = i
    · subst e
      rw [if_pos rfl, getD_set _ _ _ _ (by rw [h.len k hk]; exact hj)]
      by_cases e2 : l = j
      · subst e2; rw [if_pos rfl, if_pos rfl]
      · rw [if_neg (by omega), if_neg e2, h.at_ k l hk hl]
    · rw [if_neg e]
      have := h.apart k i hk hi e
      rw [if_neg (by omega), h.at_ k l hk hl]
/-- Two rows are exchanged. -/
theorem Lay.swap {N n : Nat} {os : List Nat} {ns : List Int} {R : List (List Int)} (h : Lay N n os ns R) (a b : Nat) (ha : a < N) (hb : b < N) : Lay N n ((os.set a (os.getD b 0)).set b (os.getD a 0)) ns ((R.set a (rw' R b)).set b (rw' R a)) := by
  have g1 : ∀ k, ((os.set a (os.getD b 0)).set b (os.getD a 0)).getD k 0 = os.getD (if k = b then a else if k = a then b else k) 0 := by
    intro k
    rw [List.getD_eq_getElem?_getD, List.getElem?_set, List.getElem?_set]
    by_cases e : b = k
    · subst e; simp [h.lo, hb]
    · rw [if_neg e, if_neg (show ¬ k = b from fun x => e x.symm)]
      by_cases e2 : a = k
      · subst e2; simp [h.lo, ha]
      · rw [if_neg e2, if_neg (show ¬ k = a from fun x => e2 x.symm), List.getD_eq_getElem?_getD]
  have g2 : ∀ k, rw' ((R.set a (rw' R b)).set b (rw' R a)) k = rw' R (if k = b then a else if k = a then b else k) := by
    intro k
    rw [rw'_set _ _ _ _ (by rw [List.length_set, h.lr]; exact hb), rw'_set _ _ _ _ (by rw [h.lr]; exact ha)]
    by_cases e : k = b
    · rw [if_pos e, if_pos e]
    · rw [if_neg e, if_neg e]
      by_cases e2 : k = a
      · rw [if_pos e2, if_pos e2]
      · rw [if_neg e2, if_neg e2]
  have hs : ∀ k, k < N → (if k = b then a else if k = a then b else k) < N := fun k hk => by split <;> (try split) <;> omega
  refine ⟨by rw [List.length_set, List.length_set]; exact h.lo, by rw [List.length_set, List.length_set]; exact h.lr, fun k hk => by rw [g2]; exact h.len _ (hs k hk), fun k hk => by rw [g1]; exact h.room _ (hs k hk), fun k l hk hl hkl => by
    rw [g1, g1]
    refine h.apart _ _ (hs k hk) (hs l hl) ?_
    split <;> split <;> (try split) <;> (try split) <;> omega, fun k l hk hl => by rw [g1, g2]; exact h.at_ _ _ (hs k hk) hl⟩
/-- The table in memory. -/
structure Tbd (w : World) (g1 g2 N n : Nat) (os : List Nat) (R : List (List Int)) : Prop where
  ne : g1 ≠ g2
  mem : ∃ ns, Own w g1 (icells ns) 2 ∧ Own w g2 (hdr g1 n os) 28 ∧ Lay N n os ns R
theorem Tbd.lt1 {w : World} {g1 g2 N n : Nat} {os : List Nat} {R : List (List Int)} (h : Tbd w g1 g2 N n os R) : g1 < w.heap.size ∧ g2 < w.heap.size := by
  obtain ⟨ns, a, b, _⟩ := h.mem
  exact ⟨a.lt, b.lt⟩
theorem Tbd.below {w w' : World} {B g1 g2 N n : Nat} {os : List Nat} {R : List (List Int)} (h : Tbd w g1 g2 N n os R) (hb : Below B w w') (h1 : g1 < B) (h2 : g2 < B) : Tbd w' g1 g2 N n os R := by
  obtain ⟨ns, a, b, c⟩ := h.mem
  exact ⟨h.ne, ns, a.below hb h1, b.below hb h2, c⟩
theorem Tbd.drew {w : World} {g1 g2 N n : Nat} {os : List Nat} {R : List (List Int)} (h : Tbd w g1 g2 N n os R) : Tbd { w with drawn := w.drawn + 1 } g1 g2 N n os R := by
  obtain ⟨ns, a, b, c⟩ := h.mem
  exact ⟨h.ne, ns, a, b, c⟩
theorem Tbd.head {w : World} {g1 g2 N n : Nat} {os : List Nat} {R : List (List Int)} (h : Tbd w g1 g2 N n os R) (i : Nat) (hi : i < N) : w.cell? ⟨g2, i, none⟩ = some (.slice (some ⟨g1, os.getD i 0, none⟩) n n) := by
  obtain ⟨ns, a, b, c⟩ := h.mem
  rw [b.cell, hdr_get _ _ _ _ (by rw [c.lo]; exact hi)]
theorem Tbd.num {w : World} {g1 g2 N n : Nat} {os : List Nat} {R : List (List Int)} (h : Tbd w g1 g2 N n os R) (i j : Nat) (hi : i < N) (hj : j < n) : w.cell? ⟨g1, os.getD i 0 + j, none⟩ = some (.int .i64 ((rw' R i).getD j 0)) := by
  obtain ⟨ns, a, b, c⟩ := h.mem
  have := c.room i hi
  rw [a.cell, icells_get _ _ (by omega), c.at_ i j hi hj]
theorem Tbd.free1 {w : World} {g1 g2 N n : Nat} {os : List Nat} {R : List (List Int)} (h : Tbd w g1 g2 N n os R) (k : Nat) : w.frozen? ⟨g1, k, none⟩ = false := by
  obtain ⟨ns, a, b, c⟩ := h.mem
  exact a.free k
theorem Tbd.free2 {w : World} {g1 g2 N n : Nat} {os : List Nat} {R : List (List Int)} (h : Tbd w g1 g2 N n os R) (k : Nat) : w.frozen? ⟨g2, k, none⟩ = false := by
  obtain ⟨ns, a, b, c⟩ := h.mem
  exact b.free k
theorem Tbd.put {w : World} {g1 g2 N n : Nat} {os : List Nat} {R : List (List Int)} (h : Tbd w g1 g2 N n os R) (i j : Nat) (x : Int) (hi : i < N) (hj : j < n) : Tbd (w.setCell ⟨g1, os.getD i 0 + j, none⟩ (.int .i64 x)) g1 g2 N n os (R.set i ((rw' R i).set j x)) := by
  obtain ⟨ns, a, b, c⟩ := h.mem
  refine ⟨h.ne, _, ?_, b.other (by simpa using h.ne) _, c.put i j x hi hj⟩
  have := a.set (os.getD i 0 + j) (.int .i64 x)
  rwa [icells_set] at this
theorem Tbd.len {w : World} {g1 g2 N n : Nat} {os : List Nat} {R : List (List Int)} (h : Tbd w g1 g2 N n os R) : R.length = N ∧ os.length = N := by
  obtain ⟨ns, a, b, c⟩ := h.mem
  exact ⟨c.lr, c.lo⟩
theorem Tbd.rlen {w : World} {g1 g2 N n : Nat} {os : List Nat} {R : List (List Int)} (h : Tbd w g1 g2 N n os R) (i : Nat) (hi : i < N) : (rw' R i).length = n := by
  obtain ⟨ns, a, b, c⟩ := h.mem
  exact c.len i hi
set_option maxRecDepth 100000 in
theorem ffI_any (g o n : Nat) (hn : n ≤ 1000000) (row : List Int) (hl : row.length = n) (w : World) (hr : ∀ j, j < n → w.cell? ⟨g, o + j, none⟩ = some (.int .i64 (row.getD j 0))) :
    Calls Try.prog 81 #[.slice (some ⟨g, o, none⟩) n n] w fun e w' => e = .returned (.int .i64 (ff row : Nat)) ∧ w' = w := by
  have hle := ff_le row
  have hz := Lib.hid (ff_zero row)
  have ha := Lib.hid (ff_at row)
  have hr' := Lib.hid hr
  rw [hl] at hle ha
  obtain ⟨F, hF⟩ : ∃ F, ff row = F := ⟨_, rfl⟩
  rw [hF] at hle hz ha ⊢
  clear hr hF hl
  go_enter Try.func81, Try.ntmps81
  go_wp2
  go_loopw [3] (fun i wr => ∃ k : Nat, k ≤ F ∧ i = .int .i64 k ∧ wr = w) (fun i _ => ((n : Int) + 1 - intOf i).toNat)
  case atStart => exact ⟨0, Nat.zero_le _, rfl, rfl⟩
  case round =>
    obtain ⟨k, hk, rfl, rfl⟩ := hrel
    by_cases hkn : k < n
    · have kI : (k : Int) < (n : Int) := by omega
      have c0 := hr'.out k hkn
      by_cases hkF : k < F
      · have z := hz.out k hkF
        rw [z] at c0
        go_wp2
        go_roundw
        case rel => exact ⟨k + 1, by omega, by go_num, trivial⟩
        case measure => simp [intOf]; omega
      · obtain rfl : k = F := by omega
        have z := ha.out hkn
        obtain ⟨x, hx⟩ : ∃ x, row.getD k 0 = x := ⟨_, rfl⟩
        rw [hx] at c0 z
        have z' : (x == 0) = false := by simpa using z
        clear hx
        go_wp2
        go_ret
        exact ⟨rfl, rfl⟩
    · obtain rfl : k = F := by omega
      have kI : ¬ (k : Int) < (n : Int) := by omega
      go_wp2
      go_ret
      exact ⟨rfl, rfl⟩
/-- A row times a number. -/
def scl (p f : Int) (row : List Int) : Nat → List Int
  | 0 => row
  | j + 1 => (scl p f row j).set j (row.getD j 0 * f % p)
theorem scl_len (p f : Int) (row : List Int) (j : Nat) : (scl p f row j).length = row.length := by
  induction j with
  | zero => rfl
  | succ j ih => rw [scl, List.length_set, ih]
theorem scl_get (p f : Int) (row : List Int) (j k : Nat) (hj : j ≤ row.length) : (scl p f row j).getD k 0 = if k < j then row.getD k 0 * f % p else row.getD k 0 := by
  induction j with
  | zero => simp [scl]
  | succ j ih =>
    rw [scl, getD_set _ _ _ _ (by rw [scl_len]; omega), ih (by omega)]
    by_cases e : k = j
    · subst e; rw [if_pos rfl, if_pos (by omega)]
    · rw [if_neg e]
      by_cases e2 : k < j
      · rw [if_pos e2, if_pos (by omega)]
      · rw [if_neg e2, if_neg (by omega)]
/-- A multiple of another row added to a row. -/
def adr (p f : Int) (own row : List Int) : Nat → List Int
  | 0 => row
  | j + 1 => (adr p f own row j).set j ((row.getD j 0 + own.getD j 0 * f) % p)
theorem adr_len (p f : Int) (own row : List Int) (j : Nat) : (adr p f own row j).length = row.length := by
  induction j with
  | zero => rfl
  | succ j ih => rw [adr, List.length_set, ih]
theorem adr_get (p f : Int) (own row : List Int) (j k : Nat) (hj : j ≤ row.length) : (adr p f own row j).getD k 0 = if k < j then (row.getD k 0 + own.getD k 0 * f) % p else row.getD k 0 := by
  induction j with
  | zero => simp [adr]
  | succ j ih =>
    rw [adr, getD_set _ _ _ _ (by rw [adr_len]; omega), ih (by omega)]
    by_cases e : k = j
    · subst e; rw [if_pos rfl, if_pos (by omega)]
    · rw [if_neg e]
      by_cases e2 : k < j
      · rw [if_pos e2, if_pos (by omega)]
      · rw [if_neg e2, if_neg (by omega)]
end Go.Proofs.Ytlgdeciikliihaa
namespace Go.Proofs.Ytlgdeciikliihaa
open Go.RowKit
set_option linter.unusedVariables false
set_option linter.unusedSimpArgs false
theorem rows_same (R : List (List Int)) (i : Nat) : R.set i (rw' R i) = R := by
  apply List.ext_getElem?
  intro k
  rw [List.getElem?_set]
  by_cases e : i = k
  · subst e
    by_cases h : i < R.length
    · rw [if_pos rfl, if_pos h]; unfold rw'; rw [List.getD_eq_getElem?_getD, List.getElem?_eq_getElem h]; rfl
    · rw [if_pos rfl, if_neg h, List.getElem?_eq_none (by omega)]
  · rw [if_neg e]
theorem Tbd.cast {w : World} {g1 g2 N n : Nat} {os : List Nat} {R R' : List (List Int)} (h : Tbd w g1 g2 N n os R) (e : R = R') : Tbd w g1 g2 N n os R' := by rw [← e]; exact h
set_option maxRecDepth 100000 in
set_option maxHeartbeats 2000000 in
theorem sclI_any (p f : Int) (hp : 2 ≤ p) (hp2 : p ≤ 97) (f0 : 0 ≤ f) (f1 : f < p) (g1 g2 N n : Nat) (os : List Nat) (R : List (List Int)) (hn : n ≤ 1000000) (i : Nat) (hi : i < N) (hbd : ∀ j, j < n → 0 ≤ (rw' R i).getD j 0 ∧ (rw' R i).getD j 0 < p) (B : Nat) (w : World) (h : Tbd w g1 g2 N n os R) (hB1 : B ≤ g1) (o : Nat) (ho : os.getD i 0 = o) :
    Calls Try.prog 83 #[.int .i64 p, .slice (some ⟨g1, o, none⟩) n n, .int .i64 f] w fun e w' => e = .returned (.tuple #[]) ∧ Tbd w' g1 g2 N n os (R.set i (scl p f (rw' R i) n)) ∧ Below B w w' := by
  have hrl := h.rlen i hi
  have hRl := h.len.1
  have hrow : ∀ S, rw' (R.set i S) i = S := fun S => by rw [rw'_set _ _ _ _ (by rw [hRl]; exact hi), if_pos rfl]
  have hset : ∀ S T, (R.set i S).set i T = R.set i T := fun S T => by rw [List.set_set]
  obtain ⟨row, hro⟩ : ∃ r, rw' R i = r := ⟨_, rfl⟩
  rw [hro] at hbd hrl
  have h0 : Tbd w g1 g2 N n os (R.set i (scl p f row 0)) := h.cast (by rw [scl, ← hro]; exact (rows_same R i).symm)
  rw [hro]
  have ho' := Lib.hid ho
  have hb' := Lib.hid hbd
  have hg := Lib.hid (fun j k (hj : j ≤ n) => scl_get p f row j k (by omega))
  have hl := Lib.hid (scl_len p f row)
  have hrow' := Lib.hid hrow
  have hset' := Lib.hid hset
  have hm := Lib.hid (fun x w1 (x0 : 0 ≤ x) (x1 : x < p) => (remI_any p (x * f) w1 hp hp2 (by have := bnd_mul p x f 0 hp hp2 x0 x1 f0 f1; omega) (by have := bnd_mul p x f 0 hp hp2 x0 x1 f0 f1; omega)).mono fun e w' h => (show e = .returned (.int .i64 (x * f % p)) ∧ w' = w1 from ⟨h.1, h.2.symm⟩))
  clear hbd hrow hset h hro ho
  go_enter Try.func83, Try.ntmps83
  go_wp2
  go_loopw [9] (fun i' wr => ∃ k : Nat, k ≤ n ∧ i' = .int .i64 k ∧ Tbd wr g1 g2 N n os (R.set i (scl p f row k)) ∧ Below B w wr) (fun i' _ => ((n : Int) - intOf i').toNat)
  case atStart => exact ⟨0, Nat.zero_le _, rfl, h0, Below.refl _ _⟩
  case round =>
    clear h0
    obtain ⟨k, hk, rfl, hT, hB⟩ := hrel
    by_cases hkn : k < n
    · have kI : (k : Int) < (n : Int) := by omega
      have c0 := hT.num i k hi hkn
      rw [hrow'.out, hg.out k k hk, if_neg (by omega), ho'.out] at c0
      have f0' := hT.free1 (o + k)
      obtain ⟨xb0, xb1⟩ := hb'.out k hkn
      have hst : scl p f row (k + 1) = (scl p f row k).set k (row.getD k 0 * f % p) := rfl
      obtain ⟨x, hx⟩ : ∃ x, row.getD k 0 = x := ⟨_, rfl⟩
      rw [hx] at c0 xb0 xb1 hst
      have hmx := Lib.hid (fun w => hm.out x w xb0 xb1)
      have bm := bnd_mul p x f 0 hp hp2 xb0 xb1 f0 f1
      obtain ⟨bm0, bm1⟩ := bm
      obtain ⟨y, hy⟩ : ∃ y, x * f % p = y := ⟨_, rfl⟩
      rw [hy] at hmx hst
      have hT2 := hT.put i k y hi hkn
      rw [hrow'.out, hset'.out, ← hst, ho'.out] at hT2
      have hB2 := hB.setCell (p := ⟨g1, o + k, none⟩) hB1 (.int .i64 y)
      have K1 := Lib.hid hT2
      have K2 := Lib.hid hB2
      clear hT hB hT2 hB2 hst hx hy
      go_wp2_with (first
        | (go_at_call 82; ((with_reducible refine (hmx.out _).mono ?_); rintro e w1 ⟨rfl, rfl⟩)))
      go_roundw
      case rel => exact ⟨k + 1, by omega, by go_num, K1.out, K2.out⟩
      case measure => simp [intOf]; omega
    · obtain rfl : k = n := by omega
      go_wp2
      go_end0
      exact ⟨rfl, hT, hB⟩
theorem adr_bd (p x y f : Int) (hp2 : p ≤ 97) (x0 : 0 ≤ x) (x1 : x < p) (y0 : 0 ≤ y) (y1 : y < p) (f0 : -97 ≤ f) (f1 : f ≤ 97) : -9409 ≤ y * f ∧ y * f ≤ 9409 ∧ -9409 ≤ x + y * f ∧ x + y * f ≤ 9506 := by
  have h1 := Int.mul_le_mul_of_nonneg_left f1 y0
  have h2 := Int.mul_le_mul_of_nonneg_left f0 y0
  omega
set_option maxRecDepth 100000 in
set_option maxHeartbeats 4000000 in
theorem adrI_any (p f : Int) (hp : 2 ≤ p) (hp2 : p ≤ 97) (f0 : -97 ≤ f) (f1 : f ≤ 97) (g1 g2 N n : Nat) (os : List Nat) (R : List (List Int)) (hn : n ≤ 1000000) (i r : Nat) (hi : i < N) (hr : r < N) (hir : i ≠ r) (hbd : ∀ i, i < N → ∀ j, j < n → 0 ≤ (rw' R i).getD j 0 ∧ (rw' R i).getD j 0 < p) (B : Nat) (w : World) (h : Tbd w g1 g2 N n os R) (hB1 : B ≤ g1) (o q : Nat) (ho : os.getD i 0 = o) (hq : os.getD r 0 = q) :
    Calls Try.prog 85 #[.int .i64 p, .slice (some ⟨g1, o, none⟩) n n, .slice (some ⟨g1, q, none⟩) n n, .int .i64 f] w fun e w' => e = .returned (.tuple #[]) ∧ Tbd w' g1 g2 N n os (R.set i (adr p f (rw' R r) (rw' R i) n)) ∧ Below B w w' := by
  have hrl := h.rlen i hi
  have hRl := h.len.1
  have hrow : ∀ S, rw' (R.set i S) i = S := fun S => by rw [rw'_set _ _ _ _ (by rw [hRl]; exact hi), if_pos rfl]
  have hoth : ∀ S, rw' (R.set i S) r = rw' R r := fun S => by rw [rw'_set _ _ _ _ (by rw [hRl]; exact hi), if_neg (fun e => hir e.symm)]
  have hset : ∀ S T, (R.set i S).set i T = R.set i T := fun S T => by rw [List.set_set]
  have b1 := hbd i hi
  have b2 := hbd r hr
  obtain ⟨row, hro⟩ : ∃ x, rw' R i = x := ⟨_, rfl⟩
  obtain ⟨own, hwn⟩ : ∃ x, rw' R r = x := ⟨_, rfl⟩
  rw [hro] at b1 hrl
  rw [hwn] at b2
  simp only [hwn] at hoth
  have h0 : Tbd w g1 g2 N n os (R.set i (adr p f own row 0)) := h.cast (by rw [adr, ← hro]; exact (rows_same R i).symm)
  rw [hro, hwn]
  have ho' := Lib.hid ho
  have hq' := Lib.hid hq
  have hb' := Lib.hid b1
  have hb2' := Lib.hid b2
  have hg := Lib.hid (fun j k (hj : j ≤ n) => adr_get p f own row j k (by omega))
  have hrow' := Lib.hid hrow
  have hoth' := Lib.hid hoth
  have hset' := Lib.hid hset
  have hm := Lib.hid (fun x y w1 (x0 : 0 ≤ x) (x1 : x < p) (y0 : 0 ≤ y) (y1 : y < p) => (remI_any p (x + y * f) w1 hp hp2 (by have := adr_bd p x y f hp2 x0 x1 y0 y1 f0 f1; omega) (by have := adr_bd p x y f hp2 x0 x1 y0 y1 f0 f1; omega)).mono fun e w' h => (show e = .returned (.int .i64 ((x + y * f) % p)) ∧ w' = w1 from ⟨h.1, h.2.symm⟩))
  clear hbd b1 b2 hrow hset hoth h hro hwn ho hq
  go_enter Try.func85, Try.ntmps85
  go_wp2
  go_loopw [11] (fun i' wr => ∃ k : Nat, k ≤ n ∧ i' = .int .i64 k ∧ Tbd wr g1 g2 N n os (R.set i (adr p f own row k)) ∧ Below B w wr) (fun i' _ => ((n : Int) - intOf i').toNat)
  case atStart => exact ⟨0, Nat.zero_le _, rfl, h0, Below.refl _ _⟩
  case round =>
    clear h0
    obtain ⟨k, hk, rfl, hT, hB⟩ := hrel
    by_cases hkn : k < n
    · have kI : (k : Int) < (n : Int) := by omega
      obtain ⟨x, hx⟩ : ∃ x, row.getD k 0 = x := ⟨_, rfl⟩
      obtain ⟨y, hy⟩ : ∃ y, own.getD k 0 = y := ⟨_, rfl⟩
      have hc := Lib.hid (show ∀ x' : World, Tbd x' g1 g2 N n os (R.set i (adr p f own row k)) → x'.cell? ⟨g1, o + k, none⟩ = some (.int .i64 x) ∧ x'.cell? ⟨g1, q + k, none⟩ = some (.int .i64 y) from fun x' h => by
        have a := h.num i k hi hkn
        have b := h.num r k hr hkn
        rw [hrow'.out, hg.out k k hk, if_neg (by omega), ho'.out, hx] at a
        rw [hoth'.out, hq'.out, hy] at b
        exact ⟨a, b⟩)
      obtain ⟨xb0, xb1⟩ := hb'.out k hkn
      obtain ⟨yb0, yb1⟩ := hb2'.out k hkn
      rw [hx] at xb0 xb1
      rw [hy] at yb0 yb1
      have hst : adr p f own row (k + 1) = (adr p f own row k).set k ((row.getD k 0 + own.getD k 0 * f) % p) := rfl
      rw [hx, hy] at hst
      have hmx := Lib.hid (fun w => hm.out x y w xb0 xb1 yb0 yb1)
      obtain ⟨bm0, bm1, bm2, bm3⟩ := adr_bd p x y f hp2 xb0 xb1 yb0 yb1 f0 f1
      obtain ⟨z, hz⟩ : ∃ z, (x + y * f) % p = z := ⟨_, rfl⟩
      rw [hz] at hmx hst
      have hpt := Lib.hid (show ∀ x' : World, Tbd x' g1 g2 N n os (R.set i (adr p f own row k)) → Tbd (x'.setCell ⟨g1, o + k, none⟩ (.int .i64 z)) g1 g2 N n os (R.set i (adr p f own row (k + 1))) from fun x' h => by
        have a := h.put i k z hi hkn
        rwa [hrow'.out, hset'.out, ← hst, ho'.out] at a)
      clear hst hx hy hz
      go_upto_region 3 with fail
      refine wp_region_st (fun x => Tbd x g1 g2 N n os (R.set i (adr p f own row k))) [(true, 0), (true, 1), (true, 2), (true, 3), (true, 4), (true, 5), (true, 6), (true, 7), (true, 8), (true, 9), (true, 10), (true, 11), (true, 12), (true, 13), (false, 14)] 15 (by kernel_rfl) (by kernel_rfl) hT.drew ?_
      have hTd := hT.drew
      have hBd : Below B w { wr with drawn := wr.drawn + 1 } := hB.drew
      clear hT hB
      generalize ({ wr with drawn := wr.drawn + 1 } : World) = w3 at *
      simp only [List.map_cons, List.map_nil, opS'_mk, opN_zero, opN_succ, List.drop_succ_cons, List.drop_zero]
      (apply wpSt_read; · (intro wd hS K hK; clear hS; go_simp; exact hK))
      (apply wpSt_read; · (intro wd hS K hK; clear hS; go_simp; exact hK))
      (apply wpSt_read; · (intro wd hS K hK; clear hS; go_simp; exact hK))
      (apply wpSt_read; · (intro wd hS K hK; clear hS; go_simp; exact hK))
      (apply wpSt_read; · (intro wd hS K hK; clear hS; go_simp; exact hK))
      (apply wpSt_read; · (intro wd hS K hK; clear hS; go_simp; exact hK))
      (apply wpSt_read; · (intro wd hS K hK; obtain ⟨d0, d1⟩ := hc.out wd hS; clear hS; go_simp; exact hK))
      (apply wpSt_read; · (intro wd hS K hK; clear hS; go_simp; exact hK))
      (apply wpSt_read; · (intro wd hS K hK; clear hS; go_simp; exact hK))
      (apply wpSt_read; · (intro wd hS K hK; clear hS; go_simp; exact hK))
      (apply wpSt_read; · (intro wd hS K hK; obtain ⟨d0, d1⟩ := hc.out wd hS; clear hS; go_simp; exact hK))
      (apply wpSt_read; · (intro wd hS K hK; clear hS; go_simp; exact hK))
      (apply wpSt_read; · (intro wd hS K hK; clear hS; go_simp; exact hK))
      (apply wpSt_read; · (intro wd hS K hK; clear hS; go_simp; exact hK))
      refine wpSt_keep (fun K hK => ?_)
      go_wp2_with (first
        | (go_at_call 82; ((with_reducible refine (hmx.out _).mono ?_); rintro e w4 ⟨rfl, rfl⟩)))
      refine hK _ _ hTd rfl ?_
      clear hK K
      refine wpSt_nil ?_
      obtain ⟨d0, d1⟩ := hc.out _ hTd
      have f0' := hTd.free1 (o + k)
      have K1 := Lib.hid (hpt.out _ hTd)
      have K2 := Lib.hid (hBd.setCell (p := ⟨g1, o + k, none⟩) hB1 (.int .i64 z))
      clear hTd hBd d1
      go_wp2
      go_roundw
      case rel => exact ⟨k + 1, by omega, by go_num, K1.out, K2.out⟩
      case measure => simp [intOf]; omega
    · obtain rfl : k = n := by omega
      go_wp2
      go_end0
      exact ⟨rfl, hT, hB⟩
end Go.Proofs.Ytlgdeciikliihaa
namespace Go.Proofs.Ytlgdeciikliihaa
open Go.RowKit
set_option linter.unusedVariables false
set_option linter.unusedSimpArgs false
def swp (R : List (List Int)) (r b : Nat) : List (List Int) := if b = r then R else (R.set r (rw' R b)).set b (rw' R r)
theorem swp_len (R : List (List Int)) (r b : Nat) : (swp R r b).length = R.length := by unfold swp; split <;> simp
theorem swp_get (R : List (List Int)) (r b k : Nat) (hr : r < R.length) (hb : b < R.length) : rw' (swp R r b) k = rw' R (if k = b then r else if k = r then b else k) := by
  unfold swp
  split
  · rename_i h
    subst h
    split
    · rename_i h2; rw [h2]
    · rfl
  · rw [rw'_set _ _ _ _ (by rw [List.length_set]; exact hb), rw'_set _ _ _ _ hr]
    by_cases e : k = b
    · rw [if_pos e, if_pos e]
    · rw [if_neg e, if_neg e]
      by_cases e2 : k = r
      · rw [if_pos e2, if_pos e2]
      · rw [if_neg e2, if_neg e2]
/-- The first i rows, but the row r, with the row r taken away. -/
def upd (p : Int) (n r pl : Nat) (R : List (List Int)) : Nat → List (List Int)
  | 0 => R
  | i + 1 => if i = r then upd p n r pl R i else (upd p n r pl R i).set i (adr p (-((rw' (upd p n r pl R i) i).getD pl 0)) (rw' (upd p n r pl R i) r) (rw' (upd p n r pl R i) i) n)
theorem upd_len (p : Int) (n r pl : Nat) (R : List (List Int)) (i : Nat) : (upd p n r pl R i).length = R.length := by
  induction i with
  | zero => rfl
  | succ i ih => unfold upd; split <;> simp [ih]
theorem upd_get (p : Int) (n r pl : Nat) (R : List (List Int)) (i k : Nat) (hi : i ≤ R.length) : rw' (upd p n r pl R i) k = if k < i ∧ k ≠ r then adr p (-((rw' R k).getD pl 0)) (rw' R r) (rw' R k) n else rw' R k := by
  induction i generalizing k with
  | zero => simp [upd]
  | succ i ih =>
    unfold upd
    by_cases e : i = r
    · rw [if_pos e, ih k (by omega)]
      by_cases h : k < i ∧ k ≠ r
      · rw [if_pos h, if_pos ⟨by omega, h.2⟩]
      · rw [if_neg h, if_neg (by omega)]
    · rw [if_neg e, rw'_set _ _ _ _ (by rw [upd_len]; omega)]
      have h1 : rw' (upd p n r pl R i) i = rw' R i := by rw [ih i (by omega), if_neg (by omega)]
      have h2 : rw' (upd p n r pl R i) r = rw' R r := by rw [ih r (by omega), if_neg (by omega)]
      by_cases hk : k = i
      · subst hk
        rw [if_pos rfl, if_pos ⟨by omega, e⟩, h1, h2]
      · rw [if_neg hk, ih k (by omega)]
        by_cases h : k < i ∧ k ≠ r
        · rw [if_pos h, if_pos ⟨by omega, h.2⟩]
        · rw [if_neg h, if_neg (by omega)]
theorem adr_bds (p f : Int) (own row : List Int) (n : Nat) (hp : 2 ≤ p) (hl : row.length = n) (j : Nat) (hj : j < n) : 0 ≤ (adr p f own row n).getD j 0 ∧ (adr p f own row n).getD j 0 < p := by
  rw [adr_get _ _ _ _ _ _ (by omega), if_pos hj]
  exact ⟨Int.emod_nonneg _ (by omega), Int.emod_lt_of_pos _ (by omega)⟩
theorem scl_bds (p f : Int) (row : List Int) (n : Nat) (hp : 2 ≤ p) (hl : row.length = n) (j : Nat) (hj : j < n) : 0 ≤ (scl p f row n).getD j 0 ∧ (scl p f row n).getD j 0 < p := by
  rw [scl_get _ _ _ _ _ (by omega), if_pos hj]
  exact ⟨Int.emod_nonneg _ (by omega), Int.emod_lt_of_pos _ (by omega)⟩
/-- Rows of n numbers modulo p. -/
def RowsP (p : Int) (n : Nat) (R : List (List Int)) : Prop := RowsOk p n 0 R
theorem swp_ok {p : Int} {n : Nat} {R : List (List Int)} (h : RowsP p n R) (r b : Nat) (hr : r < R.length) (hb : b < R.length) : RowsP p n (swp R r b) := by
  have hx : ∀ i, i < R.length → (if i = b then r else if i = r then b else i) < R.length := fun i hi => by split <;> (try split) <;> omega
  refine ⟨fun i hi => ?_, fun i j hi hj => ?_, fun i j _ hj => by omega⟩
  · rw [swp_len] at hi
    rw [swp_get _ _ _ _ hr hb]; exact h.len _ (hx i hi)
  · rw [swp_len] at hi
    rw [swp_get _ _ _ _ hr hb]; exact h.bd _ j (hx i hi) hj
theorem set_ok {p : Int} {n : Nat} {R : List (List Int)} (h : RowsP p n R) (r : Nat) (S : List Int) (hr : r < R.length) (hl : S.length = n) (hb : ∀ j, j < n → 0 ≤ S.getD j 0 ∧ S.getD j 0 < p) : RowsP p n (R.set r S) := by
  refine ⟨fun i hi => ?_, fun i j hi hj => ?_, fun i j _ hj => by omega⟩
  · rw [List.length_set] at hi
    rw [rw'_set _ _ _ _ hr]
    split
    · exact hl
    · exact h.len i hi
  · rw [List.length_set] at hi
    rw [rw'_set _ _ _ _ hr]
    split
    · exact hb j hj
    · exact h.bd i j hi hj
theorem upd_ok {p : Int} {n : Nat} {R : List (List Int)} (hp : 2 ≤ p) (h : RowsP p n R) (r pl i : Nat) (hi : i ≤ R.length) : RowsP p n (upd p n r pl R i) := by
  refine ⟨fun k hk => ?_, fun k j hk hj => ?_, fun k j _ hj => by omega⟩
  · rw [upd_len] at hk
    rw [upd_get _ _ _ _ _ _ _ hi]
    split
    · rw [adr_len]; exact h.len k hk
    · exact h.len k hk
  · rw [upd_len] at hk
    rw [upd_get _ _ _ _ _ _ _ hi]
    split
    · exact adr_bds _ _ _ _ _ hp (h.len k hk) j hj
    · exact h.bd k j hk hj
theorem drop_get (R : List (List Int)) (r k : Nat) : rw' (R.drop r) k = rw' R (r + k) := by
  unfold rw'
  rw [List.getD_eq_getElem?_getD, List.getElem?_drop, List.getD_eq_getElem?_getD]
theorem rows_ext {A B : List (List Int)} (n : Nat) (hl : A.length = B.length) (ha : ∀ i, i < A.length → (rw' A i).length = n) (hb : ∀ i, i < B.length → (rw' B i).length = n) (h : ∀ i, i < A.length → ∀ j, j < n → (rw' A i).getD j 0 = (rw' B i).getD j 0) : A = B := by
  apply List.ext_getElem hl
  intro i h1 h2
  have eA : rw' A i = A[i] := by unfold rw'; rw [List.getD_eq_getElem?_getD, List.getElem?_eq_getElem h1]; rfl
  have eB : rw' B i = B[i] := by unfold rw'; rw [List.getD_eq_getElem?_getD, List.getElem?_eq_getElem h2]; rfl
  rw [← eA, ← eB]
  apply List.ext_getElem (by rw [ha i h1, hb i h2])
  intro j g1 g2
  have := h i h1 j (by rw [← ha i h1]; exact g1)
  rw [List.getD_eq_getElem?_getD, List.getD_eq_getElem?_getD, List.getElem?_eq_getElem g1, List.getElem?_eq_getElem g2] at this
  exact this
/-- What the step leaves behind the row r. -/
theorem fin_eq {p : Int} {N n r b pl : Nat} {R : List (List Int)} (hp : primeB p = true) (h : RowsP p n R) (hN : R.length = N) (hb : r + b < N) (hpl : pl < n) :
    (upd p n r pl ((swp R r (r + b)).set r (scl p (rcp p ((rw' R (r + b)).getD pl 0)) (rw' R (r + b)) n)) N).drop (r + 1) = nxtR p n pl b (R.drop r) := by
  obtain ⟨p2, p97⟩ := primeB_two hp
  have hlen : ((swp R r (r + b)).set r (scl p (rcp p ((rw' R (r + b)).getD pl 0)) (rw' R (r + b)) n)).length = N := by rw [List.length_set, swp_len, hN]
  have hs : r < (swp R r (r + b)).length := by rw [swp_len]; omega
  have hol := h.len (r + b) (by omega)
  have hrow : ∀ i, r + 1 + i < N → rw' ((swp R r (r + b)).set r (scl p (rcp p ((rw' R (r + b)).getD pl 0)) (rw' R (r + b)) n)) (r + 1 + i) = rw' R (if i + 1 = b then r else r + 1 + i) := fun i hi => by
    rw [rw'_set _ _ _ _ hs, if_neg (by omega), swp_get _ _ _ _ (by omega) (by omega)]
    by_cases e : i + 1 = b
    · rw [if_pos (by omega), if_pos e]
    · rw [if_neg (by omega), if_neg (by omega), if_neg e]
  have hx : ∀ i, r + 1 + i < N → (if i + 1 = b then r else r + 1 + i) < R.length := fun i hi => by split <;> omega
  have hown : rw' ((swp R r (r + b)).set r (scl p (rcp p ((rw' R (r + b)).getD pl 0)) (rw' R (r + b)) n)) r = scl p (rcp p ((rw' R (r + b)).getD pl 0)) (rw' R (r + b)) n := by rw [rw'_set _ _ _ _ hs, if_pos rfl]
  have hL : ∀ i, i < N - (r + 1) → rw' ((upd p n r pl ((swp R r (r + b)).set r (scl p (rcp p ((rw' R (r + b)).getD pl 0)) (rw' R (r + b)) n)) N).drop (r + 1)) i = adr p (-((rw' R (if i + 1 = b then r else r + 1 + i)).getD pl 0)) (scl p (rcp p ((rw' R (r + b)).getD pl 0)) (rw' R (r + b)) n) (rw' R (if i + 1 = b then r else r + 1 + i)) n := fun i hi => by
    rw [drop_get, upd_get _ _ _ _ _ _ _ (by omega), if_pos ⟨by omega, by omega⟩, hrow i (by omega), hown]
  have hR : ∀ i, i < N - (r + 1) → rw' (nxtR p n pl b (R.drop r)) i = red p n pl (rcp p ((rw' R (r + b)).getD pl 0)) (rw' R (r + b)) (rw' R (if i + 1 = b then r else r + 1 + i)) := fun i hi => by
    rw [nxtR_get _ _ _ _ _ _ (by rw [List.length_drop]; omega), drop_get]
    congr 1
    by_cases e : i + 1 = b
    · rw [if_pos e, if_pos e, drop_get, Nat.add_zero]
    · rw [if_neg e, if_neg e, drop_get, show r + (i + 1) = r + 1 + i by omega]
  refine rows_ext n (by rw [List.length_drop, upd_len, hlen, nxtR_len, List.length_drop]; omega) (fun i hi => ?_) (fun i hi => ?_) (fun i hi j hj => ?_)
  · rw [List.length_drop, upd_len, hlen] at hi
    rw [hL i hi, adr_len]; exact h.len _ (hx i (by omega))
  · rw [nxtR_len, List.length_drop] at hi
    rw [hR i (by omega), red_len]
  · rw [List.length_drop, upd_len, hlen] at hi
    have hrl := h.len _ (hx i (by omega))
    rw [hL i hi, hR i hi, adr_get _ _ _ _ _ _ (by omega), if_pos hj, red_get _ _ _ _ _ _ _ hj, scl_get _ _ _ _ _ (by omega), if_pos hj]
    generalize rw' R (if i + 1 = b then r else r + 1 + i) = row
    generalize rw' R (r + b) = own
    generalize rcp p (own.getD pl 0) = rc
    rw [Int.mul_neg, ← Int.sub_eq_add_neg, Int.sub_emod, Int.sub_emod (row.getD j 0) (row.getD pl 0 * rc % p * own.getD j 0)]
    congr 2
    rw [Int.mul_emod, Int.emod_emod, ← Int.mul_emod, Int.mul_emod (row.getD pl 0 * rc % p), Int.emod_emod, ← Int.mul_emod]
    congr 1
    simp only [Int.mul_comm, Int.mul_left_comm, Int.mul_assoc]
end Go.Proofs.Ytlgdeciikliihaa
namespace Go.Proofs.Ytlgdeciikliihaa
open Go.RowKit
set_option linter.unusedVariables false
set_option linter.unusedSimpArgs false
/-- The rows behind the row r, k of them, with the row own taken away. -/
def updM (p : Int) (n r c : Nat) (rc : Int) (own : List Int) (R : List (List Int)) : Nat → List (List Int)
  | 0 => R
  | k + 1 => (updM p n r c rc own R k).set (r + 1 + k) (red p n c rc own (rw' R (r + 1 + k)))
theorem updM_len (p : Int) (n r c : Nat) (rc : Int) (own : List Int) (R : List (List Int)) (k : Nat) : (updM p n r c rc own R k).length = R.length := by
  induction k with
  | zero => rfl
  | succ k ih => rw [updM, List.length_set, ih]
theorem updM_get (p : Int) (n r c : Nat) (rc : Int) (own : List Int) (R : List (List Int)) (k i : Nat) (hk : r + 1 + k ≤ R.length) : rw' (updM p n r c rc own R k) i = if r + 1 ≤ i ∧ i < r + 1 + k then red p n c rc own (rw' R i) else rw' R i := by
  induction k with
  | zero => rw [updM, if_neg (by omega)]
  | succ k ih =>
    rw [updM, rw'_set _ _ _ _ (by rw [updM_len]; omega), ih (by omega)]
    by_cases e : i = r + 1 + k
    · subst e; rw [if_pos rfl, if_pos ⟨by omega, by omega⟩]
    · rw [if_neg e]
      by_cases h : r + 1 ≤ i ∧ i < r + 1 + k
      · rw [if_pos h, if_pos ⟨h.1, by omega⟩]
      · rw [if_neg h, if_neg (by omega)]
theorem red_bds (p : Int) (n c : Nat) (rc : Int) (own row : List Int) (hp : 2 ≤ p) (j : Nat) (hj : j < n) : 0 ≤ (red p n c rc own row).getD j 0 ∧ (red p n c rc own row).getD j 0 < p := by
  rw [red_get _ _ _ _ _ _ _ hj]
  exact ⟨Int.emod_nonneg _ (by omega), Int.emod_lt_of_pos _ (by omega)⟩
theorem list_ext0 {a b : List Int} (hl : a.length = b.length) (h : ∀ j, j < a.length → a.getD j 0 = b.getD j 0) : a = b := by
  apply List.ext_getElem hl
  intro j h1 h2
  have := h j h1
  rw [List.getD_eq_getElem?_getD, List.getD_eq_getElem?_getD, List.getElem?_eq_getElem h1, List.getElem?_eq_getElem h2] at this
  exact this
theorem red_zero (p : Int) (n c : Nat) (rc : Int) (own row : List Int) (hl : row.length = n) (hb : ∀ j, j < n → 0 ≤ row.getD j 0 ∧ row.getD j 0 < p) (h : row.getD c 0 * rc % p = 0) : red p n c rc own row = row := by
  refine list_ext0 (by rw [red_len, hl]) (fun j hj => ?_)
  rw [red_len] at hj
  rw [red_get _ _ _ _ _ _ _ hj, h, Int.zero_mul, Int.sub_zero]
  exact Int.emod_eq_of_lt (hb j hj).1 (hb j hj).2
theorem updM_ok {p : Int} {n : Nat} {R : List (List Int)} (hp : 2 ≤ p) (h : RowsP p n R) (r c : Nat) (rc : Int) (own : List Int) (k : Nat) (hk : r + 1 + k ≤ R.length) : RowsP p n (updM p n r c rc own R k) := by
  refine ⟨fun i hi => ?_, fun i j hi hj => ?_, fun i j _ hj => by omega⟩
  · rw [updM_len] at hi
    rw [updM_get _ _ _ _ _ _ _ _ _ hk]
    split
    · exact red_len _ _ _ _ _ _
    · exact h.len i hi
  · rw [updM_len] at hi
    rw [updM_get _ _ _ _ _ _ _ _ _ hk]
    split
    · exact red_bds _ _ _ _ _ _ hp j hj
    · exact h.bd i j hi hj
theorem fin_eqM {p : Int} {N n r b c : Nat} {R : List (List Int)} (h : RowsP p n R) (hN : R.length = N) (hb : r + b < N) (M : Nat) (hM : N - r = M + 1) :
    (updM p n r c (rcp p ((rw' R (r + b)).getD c 0)) (rw' R (r + b)) (swp R r (r + b)) M).drop (r + 1) = nxtR p n c b (R.drop r) := by
  have hs : r < (swp R r (r + b)).length := by rw [swp_len]; omega
  have hx : ∀ i, r + 1 + i < N → (if i + 1 = b then r else r + 1 + i) < R.length := fun i hi => by split <;> omega
  have hL : ∀ i, i < M → rw' ((updM p n r c (rcp p ((rw' R (r + b)).getD c 0)) (rw' R (r + b)) (swp R r (r + b)) M).drop (r + 1)) i = red p n c (rcp p ((rw' R (r + b)).getD c 0)) (rw' R (r + b)) (rw' R (if i + 1 = b then r else r + 1 + i)) := fun i hi => by
    rw [drop_get, updM_get _ _ _ _ _ _ _ _ _ (by rw [swp_len]; omega), if_pos ⟨by omega, by omega⟩, swp_get _ _ _ _ (by omega) (by omega)]
    congr 2
    by_cases e : i + 1 = b
    · rw [if_pos (by omega), if_pos e]
    · rw [if_neg (by omega), if_neg (by omega), if_neg e]
  have hR : ∀ i, i < M → rw' (nxtR p n c b (R.drop r)) i = red p n c (rcp p ((rw' R (r + b)).getD c 0)) (rw' R (r + b)) (rw' R (if i + 1 = b then r else r + 1 + i)) := fun i hi => by
    rw [nxtR_get _ _ _ _ _ _ (by rw [List.length_drop]; omega), drop_get]
    congr 1
    by_cases e : i + 1 = b
    · rw [if_pos e, if_pos e, drop_get, Nat.add_zero]
    · rw [if_neg e, if_neg e, drop_get, show r + (i + 1) = r + 1 + i by omega]
  refine rows_ext n (by rw [List.length_drop, updM_len, swp_len, nxtR_len, List.length_drop]; omega) (fun i hi => ?_) (fun i hi => ?_) (fun i hi j hj => ?_)
  · rw [List.length_drop, updM_len, swp_len] at hi
    rw [hL i (by omega), red_len]
  · rw [nxtR_len, List.length_drop] at hi
    rw [hR i (by omega), red_len]
  · rw [List.length_drop, updM_len, swp_len] at hi
    rw [hL i (by omega), hR i (by omega)]
theorem Own.neTy {w : World} {b b' : Nat} {cs cs' : Array Value} {t t' : TypeId} (h : Own w b cs t) (h' : Own w b' cs' t') (ht : t ≠ t') : b ≠ b' := by
  rintro rfl
  have : some (Obj.cells cs t (0, 0)) = some (Obj.cells cs' t' (0, 0)) := (show w.heap[b]? = _ from h).symm.trans h'
  simp at this
  exact ht this.2
/-- A table whose rows lie in blocks of their own. -/
structure Tbm (w : World) (g2 N n : Nat) (hs : List (Nat × Nat)) (R : List (List Int)) : Prop where
  lo : hs.length = N
  lr : R.length = N
  len : ∀ i, i < N → (rw' R i).length = n
  mem : ∃ cs : Array Value, Own w g2 cs 28 ∧ N ≤ cs.size ∧ ∀ i, i < N → cs[i]? = some (.slice (some ⟨(hs.getD i (0, 0)).1, 0, none⟩) n (hs.getD i (0, 0)).2)
  row : ∀ i, i < N → ∃ sp, Own w (hs.getD i (0, 0)).1 (scells (rw' R i) sp) 2
theorem Tbm.below {w w' : World} {g2 N n : Nat} {hs : List (Nat × Nat)} {R : List (List Int)} (h : Tbm w g2 N n hs R) (hb : Below w.heap.size w w') : Tbm w' g2 N n hs R := by
  obtain ⟨cs, a, b, c⟩ := h.mem
  exact ⟨h.lo, h.lr, h.len, ⟨cs, a.below hb a.lt, b, c⟩, fun i hi => by obtain ⟨sp, o⟩ := h.row i hi; exact ⟨sp, o.below hb o.lt⟩⟩
theorem Tbm.drew {w : World} {g2 N n : Nat} {hs : List (Nat × Nat)} {R : List (List Int)} (h : Tbm w g2 N n hs R) : Tbm { w with drawn := w.drawn + 1 } g2 N n hs R := by
  obtain ⟨cs, a, b, c⟩ := h.mem
  exact ⟨h.lo, h.lr, h.len, ⟨cs, a, b, c⟩, fun i hi => h.row i hi⟩
theorem Tbm.alloc {w : World} {g2 N n : Nat} {hs : List (Nat × Nat)} {R : List (List Int)} (h : Tbm w g2 N n hs R) (o : Obj) : Tbm (w.alloc o) g2 N n hs R := h.below ((Below.refl _ w).alloc (Nat.le_refl _) o)
theorem Tbm.head {w : World} {g2 N n : Nat} {hs : List (Nat × Nat)} {R : List (List Int)} (h : Tbm w g2 N n hs R) (i : Nat) (hi : i < N) : w.cell? ⟨g2, i, none⟩ = some (.slice (some ⟨(hs.getD i (0, 0)).1, 0, none⟩) n (hs.getD i (0, 0)).2) := by
  obtain ⟨cs, a, b, c⟩ := h.mem
  rw [a.cell]; exact c i hi
theorem Tbm.num {w : World} {g2 N n : Nat} {hs : List (Nat × Nat)} {R : List (List Int)} (h : Tbm w g2 N n hs R) (i j : Nat) (hi : i < N) (hj : j < n) : w.cell? ⟨(hs.getD i (0, 0)).1, j, none⟩ = some (.int .i64 ((rw' R i).getD j 0)) := by
  obtain ⟨sp, o⟩ := h.row i hi
  rw [o.cell, scells_get _ _ _ (by rw [h.len i hi]; exact hj)]
theorem Tbm.free {w : World} {g2 N n : Nat} {hs : List (Nat × Nat)} {R : List (List Int)} (h : Tbm w g2 N n hs R) (i : Nat) : w.frozen? ⟨g2, i, none⟩ = false := by
  obtain ⟨cs, a, b, c⟩ := h.mem
  exact a.free i
theorem Tbm.lt {w : World} {g2 N n : Nat} {hs : List (Nat × Nat)} {R : List (List Int)} (h : Tbm w g2 N n hs R) : g2 < w.heap.size := by
  obtain ⟨cs, a, b, c⟩ := h.mem
  exact a.lt
theorem pair_set (hs : List (Nat × Nat)) (i k : Nat) (x : Nat × Nat) (h : i < hs.length) : (hs.set i x).getD k (0, 0) = if k = i then x else hs.getD k (0, 0) := by
  rw [List.getD_eq_getElem?_getD, List.getElem?_set]
  by_cases e : i = k
  · subst e; simp [h]
  · rw [if_neg e, if_neg (fun x => e x.symm), List.getD_eq_getElem?_getD]
/-- A row is put in the place of another one. -/
theorem Tbm.put {w : World} {g2 N n : Nat} {hs : List (Nat × Nat)} {R : List (List Int)} (h : Tbm w g2 N n hs R) (i g cap : Nat) (row : List Int) (sp : List Value) (hi : i < N) (hl : row.length = n) (ho : Own w g (scells row sp) 2) : Tbm (w.setCell ⟨g2, i, none⟩ (.slice (some ⟨g, 0, none⟩) n cap)) g2 N n (hs.set i (g, cap)) (R.set i row) := by
  obtain ⟨cs, a, b, c⟩ := h.mem
  have hR : i < R.length := by rw [h.lr]; exact hi
  have hH : i < hs.length := by rw [h.lo]; exact hi
  have hn : ∀ {g' : Nat} {cs' : Array Value}, Own w g' cs' 2 → Own (w.setCell ⟨g2, i, none⟩ (.slice (some ⟨g, 0, none⟩) n cap)) g' cs' 2 := fun o => o.other (fun e => Own.neTy a o (by decide) e) _
  refine ⟨by rw [List.length_set]; exact h.lo, by rw [List.length_set]; exact h.lr, fun k hk => ?_, ⟨_, a.set i _, by simpa using b, fun k hk => ?_⟩, fun k hk => ?_⟩
  · rw [rw'_set _ _ _ _ hR]
    split
    · exact hl
    · exact h.len k hk
  · rw [pair_set _ _ _ _ hH]
    by_cases e : k = i
    · subst e
      rw [if_pos rfl, Array.getElem?_setIfInBounds_self, if_pos (by omega)]
    · rw [if_neg e, Array.getElem?_setIfInBounds_ne (fun x => e x.symm)]
      exact c k hk
  · rw [rw'_set _ _ _ _ hR, pair_set _ _ _ _ hH]
    by_cases e : k = i
    · rw [if_pos e, if_pos e]; exact ⟨sp, hn ho⟩
    · rw [if_neg e, if_neg e]
      obtain ⟨sp', o⟩ := h.row k hk
      exact ⟨sp', hn o⟩
theorem Tbm.swap {w : World} {g2 N n : Nat} {hs : List (Nat × Nat)} {R : List (List Int)} (h : Tbm w g2 N n hs R) (b r : Nat) (hb : b < N) (hr : r < N) (hbr : b ≠ r) (gb cb gr cr : Nat) (eb : hs.getD b (0, 0) = (gb, cb)) (er : hs.getD r (0, 0) = (gr, cr)) :
    Tbm ((w.setCell ⟨g2, b, none⟩ (.slice (some ⟨gr, 0, none⟩) n cr)).setCell ⟨g2, r, none⟩ (.slice (some ⟨gb, 0, none⟩) n cb)) g2 N n ((hs.set b (gr, cr)).set r (gb, cb)) (swp R r b) := by
  obtain ⟨sb, ob⟩ := h.row b hb
  obtain ⟨sr, or⟩ := h.row r hr
  rw [eb] at ob
  rw [er] at or
  have h1 := h.put b gr cr (rw' R r) sr hb (h.len r hr) or
  obtain ⟨cs, a, _, _⟩ := h.mem
  have ob' := ob.other (a := ⟨g2, b, none⟩) (fun e => Own.neTy a ob (by decide) e) (.slice (some ⟨gr, 0, none⟩) n cr)
  have h2 := h1.put r gb cb (rw' R b) sb hr (h.len b hb) ob'
  have e : (R.set b (rw' R r)).set r (rw' R b) = swp R r b := by
    unfold swp
    rw [if_neg hbr]
    exact List.set_comm _ _ hbr
  rw [e] at h2
  exact h2
end Go.Proofs.Ytlgdeciikliihaa
