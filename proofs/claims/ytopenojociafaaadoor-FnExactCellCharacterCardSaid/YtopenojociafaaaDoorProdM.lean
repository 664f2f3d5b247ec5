/- Plain mathematics of products: what the lines from outer points meet, the ends of all lines, and the number of loops. -/
import Derived.Test.YtopenojociafaaaDoorMulM
import Derived.Test.YtopenojociafaaaDoorLoopM
namespace Go.Proofs.YtopenojociafaaaDoor
open LoopM
/-- The points of a list are marked. -/
def mark : List Int → List Bool → List Bool
  | [], mb => mb
  | y :: L, mb => mark L (mb.set y.toNat true)
theorem mark_len (L : List Int) : ∀ mb : List Bool, (mark L mb).length = mb.length := by
  induction L with
  | nil => intro mb; rfl
  | cons y L ih => intro mb; rw [mark, ih]; simp
theorem mark_on {n : Int} (L : List Int) : ∀ mb : List Bool, n ≤ mb.length → (∀ x ∈ L, 0 ≤ x ∧ x < n) → ∀ y, 0 ≤ y → (On (mark L mb) y ↔ On mb y ∨ y ∈ L) := by
  induction L with
  | nil => intro mb _ _ y _; simp [mark]
  | cons x L ih =>
    intro mb hl hL y y0
    have hx := hL x (by simp)
    rw [mark, ih _ (by simpa using hl) (fun z hz => hL z (by simp [hz])) y y0, on_set _ _ _ hx.1 (by omega) y0]
    simp [or_assoc]
theorem mark_out {n : Int} (L : List Int) : ∀ mb : List Bool, (∀ x ∈ L, 0 ≤ x ∧ x < n) → ∀ j : Nat, n ≤ j → (mark L mb).getD j true = mb.getD j true := by
  induction L with
  | nil => intro mb _ j _; rfl
  | cons x L ih =>
    intro mb hL j hj
    have hx := hL x (by simp)
    rw [mark, ih _ (fun z hz => hL z (by simp [hz])) j hj, List.getD_eq_getElem?_getD, List.getD_eq_getElem?_getD, List.getElem?_set_ne (by omega)]
section
variable {n : Int} {d e : Int → Int}
/-- The other end of the line from an outer point, and the middle points on it. -/
def eP (n : Int) (d e : Int → Int) (p : Int) : Int := (folR n d e (decide (p < n)) p).1
def lP (n : Int) (d e : Int → Int) (p : Int) : List Int := (folR n d e (decide (p < n)) p).2
theorem fol_t {f : Nat} {i E : Int} {L : List Int} (h : fol n d e f true i = some (E, L)) : ∃ f', f = f' + 1 ∧ ((d i < n ∧ E = d i ∧ L = []) ∨ (n ≤ d i ∧ ∃ L', L = (d i - n) :: L' ∧ fol n d e f' false (d i - n) = some (E, L'))) := by
  cases f with
  | zero => simp [fol] at h
  | succ f =>
    refine ⟨f, rfl, ?_⟩
    rw [fol] at h
    split at h
    · rename_i c; simp at h; exact .inl ⟨c, h.1.symm, h.2⟩
    · cases hg : fol n d e f false (d i - n) with
      | none => rw [hg] at h; simp at h
      | some q =>
        rw [hg] at h; simp at h; obtain ⟨rfl, rfl⟩ := h
        exact .inr ⟨by omega, _, rfl, rfl⟩
theorem fol_f {f : Nat} {i E : Int} {L : List Int} (h : fol n d e f false i = some (E, L)) : ∃ f', f = f' + 1 ∧ ((n ≤ e i ∧ E = e i ∧ L = []) ∨ (e i < n ∧ ∃ L', L = e i :: L' ∧ fol n d e f' true (n + e i) = some (E, L'))) := by
  cases f with
  | zero => simp [fol] at h
  | succ f =>
    refine ⟨f, rfl, ?_⟩
    rw [fol] at h
    split at h
    · rename_i c; simp at h; exact .inl ⟨c, h.1.symm, h.2⟩
    · cases hg : fol n d e f true (n + e i) with
      | none => rw [hg] at h; simp at h
      | some q =>
        rw [hg] at h; simp at h; obtain ⟨rfl, rfl⟩ := h
        exact .inr ⟨by omega, _, rfl, rfl⟩
theorem outer_of {p : Int} (h0 : 0 ≤ p) (h2 : p < 2 * n) : Outer n (decide (p < n)) p := by
  unfold Outer
  by_cases c : p < n
  · simp [c]; omega
  · simp [c]; omega
theorem fol_p (hd : Mt n d) (he : Mt n e) (h1 : 1 ≤ n) (h8 : n ≤ 8) {p : Int} (h0 : 0 ≤ p) (h2 : p < 2 * n) : fol n d e 17 (decide (p < n)) p = some (eP n d e p, lP n d e p) :=
  folR_eq hd he h1 h8 _ _ (outer_of h0 h2)
theorem p_bd (hd : Mt n d) (he : Mt n e) (h1 : 1 ≤ n) (h8 : n ≤ 8) {p : Int} (h0 : 0 ≤ p) (h2 : p < 2 * n) : (0 ≤ eP n d e p ∧ eP n d e p < 2 * n) ∧ ∀ x ∈ lP n d e p, 0 ≤ x ∧ x < n :=
  fol_bd hd he 17 _ p _ _ h0 h2 (fol_p hd he h1 h8 h0 h2)
def f8 : List Bool := List.replicate 8 false
theorem f8_on (y : Int) (h0 : 0 ≤ y) (h8 : y < 8) : ¬ On f8 y := by
  unfold On f8
  rw [List.getD_eq_getElem?_getD, List.getElem?_replicate, if_pos (by omega)]
  simp
/-- The middle points on lines from outer points: point after point. -/
def metI (n : Int) (d e : Int → Int) : Nat → List Bool
  | 0 => f8
  | k + 1 => mark (lP n d e k) (metI n d e k)
/-- The middle points on lines from outer points: one above and one below in turns. -/
def metS (n : Int) (d e : Int → Int) : Nat → List Bool
  | 0 => f8
  | k + 1 => mark (lP n d e (n + k)) (mark (lP n d e k) (metS n d e k))
theorem metI_len (n : Int) (d e : Int → Int) (k : Nat) : (metI n d e k).length = 8 := by
  induction k with
  | zero => rfl
  | succ k ih => rw [metI, mark_len, ih]
theorem metS_len (n : Int) (d e : Int → Int) (k : Nat) : (metS n d e k).length = 8 := by
  induction k with
  | zero => rfl
  | succ k ih => rw [metS, mark_len, mark_len, ih]
theorem metI_on (hd : Mt n d) (he : Mt n e) (h1 : 1 ≤ n) (h8 : n ≤ 8) (k : Nat) (hk : (k : Int) ≤ 2 * n) (y : Int) (y0 : 0 ≤ y) (y2 : y < 8) : On (metI n d e k) y ↔ ∃ p : Int, 0 ≤ p ∧ p < k ∧ y ∈ lP n d e p := by
  induction k with
  | zero =>
    refine ⟨fun h => absurd h (f8_on y y0 y2), ?_⟩
    rintro ⟨p, a, b, _⟩; omega
  | succ k ih =>
    rw [metI, mark_on _ _ (by rw [metI_len]; omega) (p_bd hd he h1 h8 (by omega) (by omega)).2 y y0, ih (by omega)]
    constructor
    · rintro (⟨p, a, b, c⟩ | h)
      · exact ⟨p, a, by omega, c⟩
      · exact ⟨k, by omega, by omega, h⟩
    · rintro ⟨p, a, b, c⟩
      by_cases x : p = k
      · subst x; exact .inr c
      · exact .inl ⟨p, a, by omega, c⟩
theorem metS_on (hd : Mt n d) (he : Mt n e) (h1 : 1 ≤ n) (h8 : n ≤ 8) (k : Nat) (hk : (k : Int) ≤ n) (y : Int) (y0 : 0 ≤ y) (y2 : y < 8) : On (metS n d e k) y ↔ ∃ p : Int, 0 ≤ p ∧ p < k ∧ (y ∈ lP n d e p ∨ y ∈ lP n d e (n + p)) := by
  induction k with
  | zero =>
    refine ⟨fun h => absurd h (f8_on y y0 y2), ?_⟩
    rintro ⟨p, a, b, _⟩; omega
  | succ k ih =>
    rw [metS, mark_on _ _ (by rw [mark_len, metS_len]; omega) (p_bd hd he h1 h8 (by omega) (by omega)).2 y y0, mark_on _ _ (by rw [metS_len]; omega) (p_bd hd he h1 h8 (by omega) (by omega)).2 y y0, ih (by omega)]
    constructor
    · rintro ((⟨p, a, b, c⟩ | h) | h)
      · exact ⟨p, a, by omega, c⟩
      · exact ⟨k, by omega, by omega, .inl h⟩
      · exact ⟨k, by omega, by omega, .inr h⟩
    · rintro ⟨p, a, b, c⟩
      by_cases x : p = k
      · subst x
        rcases c with c | c
        · exact .inl (.inr c)
        · exact .inr c
      · exact .inl (.inl ⟨p, a, by omega, c⟩)
theorem metI_out (hd : Mt n d) (he : Mt n e) (h1 : 1 ≤ n) (h8 : n ≤ 8) (k : Nat) (hk : (k : Int) ≤ 2 * n) (j : Nat) (hj : n ≤ j) : (metI n d e k).getD j true = f8.getD j true := by
  induction k with
  | zero => rfl
  | succ k ih => rw [metI, mark_out _ _ (p_bd hd he h1 h8 (by omega) (by omega)).2 j hj, ih (by omega)]
theorem metS_out (hd : Mt n d) (he : Mt n e) (h1 : 1 ≤ n) (h8 : n ≤ 8) (k : Nat) (hk : (k : Int) ≤ n) (j : Nat) (hj : n ≤ j) : (metS n d e k).getD j true = f8.getD j true := by
  induction k with
  | zero => rfl
  | succ k ih => rw [metS, mark_out _ _ (p_bd hd he h1 h8 (by omega) (by omega)).2 j hj, mark_out _ _ (p_bd hd he h1 h8 (by omega) (by omega)).2 j hj, ih (by omega)]
theorem met_eq (hd : Mt n d) (he : Mt n e) (h1 : 1 ≤ n) (h8 : n ≤ 8) : metS n d e n.toNat = metI n d e (2 * n).toNat := by
  refine bl_ext (n := n) (by rw [metS_len, metI_len]) (fun y y0 y2 => ?_) (fun j hj => ?_)
  · rw [metS_on hd he h1 h8 _ (by omega) y y0 (by omega), metI_on hd he h1 h8 _ (by omega) y y0 (by omega)]
    constructor
    · rintro ⟨p, a, b, c | c⟩
      · exact ⟨p, a, by omega, c⟩
      · exact ⟨n + p, by omega, by omega, c⟩
    · rintro ⟨p, a, b, c⟩
      by_cases x : p < n
      · exact ⟨p, a, by omega, .inl c⟩
      · exact ⟨p - n, by omega, by omega, .inr (by rw [show n + (p - n) = p by omega]; exact c)⟩
  · rw [metS_out hd he h1 h8 _ (by omega) j hj, metI_out hd he h1 h8 _ (by omega) j hj]
/-- The mate of a middle point on the side of d, and what is on outer lines. -/
def vD (n : Int) (d : Int → Int) (y : Int) : Int := d (n + y) - n
def metA (n : Int) (d e : Int → Int) : List Bool := metI n d e (2 * n).toNat
theorem metA_len (n : Int) (d e : Int → Int) : (metA n d e).length = 8 := metI_len _ _ _ _
theorem metA_on (hd : Mt n d) (he : Mt n e) (h1 : 1 ≤ n) (h8 : n ≤ 8) (y : Int) (y0 : 0 ≤ y) (y2 : y < n) : On (metA n d e) y ↔ ∃ p : Int, 0 ≤ p ∧ p < 2 * n ∧ y ∈ lP n d e p := by
  unfold metA
  rw [metI_on hd he h1 h8 _ (by omega) y y0 (by omega)]
  constructor
  · rintro ⟨p, a, b, c⟩; exact ⟨p, a, by omega, c⟩
  · rintro ⟨p, a, b, c⟩; exact ⟨p, a, by omega, c⟩
theorem lP_head_u (hd : Mt n d) (he : Mt n e) (h1 : 1 ≤ n) (h8 : n ≤ 8) (p : Int) (h0 : 0 ≤ p) (h2 : p < n) (h : n ≤ d p) : d p - n ∈ lP n d e p := by
  have hf := fol_p hd he h1 h8 h0 (by omega)
  rw [show decide (p < n) = true by simp [h2], fol, if_neg (by omega)] at hf
  cases hg : fol n d e 16 false (d p - n) with
  | none => rw [hg] at hf; simp at hf
  | some q => rw [hg] at hf; simp at hf; rw [← hf.2]; simp
theorem lP_head_l (hd : Mt n d) (he : Mt n e) (h1 : 1 ≤ n) (h8 : n ≤ 8) (p : Int) (h0 : n ≤ p) (h2 : p < 2 * n) (h : e p < n) : e p ∈ lP n d e p := by
  have hf := fol_p hd he h1 h8 (by omega) h2
  rw [show decide (p < n) = false by simp; omega, fol, if_neg (by omega)] at hf
  cases hg : fol n d e 16 true (n + e p) with
  | none => rw [hg] at hf; simp at hf
  | some q => rw [hg] at hf; simp at hf; rw [← hf.2]; simp
theorem free_d (hd : Mt n d) (he : Mt n e) (h1 : 1 ≤ n) (h8 : n ≤ 8) : Free n (metA n d e) (vD n d) := by
  have mid : ∀ y, 0 ≤ y → y < n → ¬ On (metA n d e) y → n ≤ d (n + y) := by
    intro y y0 y2 hy
    refine Decidable.byContradiction fun c => hy ?_
    have b := hd.lt (n + y) (by omega) (by omega)
    have i := hd.inv (n + y) (by omega) (by omega)
    refine (metA_on hd he h1 h8 y y0 y2).2 ⟨d (n + y), b.1, b.2, ?_⟩
    have := lP_head_u hd he h1 h8 (d (n + y)) b.1 (by omega) (by omega)
    rwa [i, show n + y - n = y by omega] at this
  refine ⟨fun y y0 y2 hy => ?_, fun y y0 y2 hy x => ?_, fun y y0 y2 hy => ?_, fun y y0 y2 hy => ?_⟩
  · have b := hd.lt (n + y) (by omega) (by omega)
    have := mid y y0 y2 hy
    unfold vD; omega
  · have b := hd.lt (n + y) (by omega) (by omega)
    have i := hd.inv (n + y) (by omega) (by omega)
    have m := mid y y0 y2 hy
    obtain ⟨p, p0, p2, hp⟩ := (metA_on hd he h1 h8 _ (by unfold vD; omega) (by unfold vD; omega)).1 x
    unfold vD at hp
    have e1 : n + (d (n + y) - n) = d (n + y) := by omega
    rcases fol_a hd he 17 _ p _ _ p0 p2 (fol_p hd he h1 h8 p0 p2) _ hp (by rw [e1, i]; omega) with h | h
    · rw [e1, i, show n + y - n = y by omega] at h
      exact hy ((metA_on hd he h1 h8 y y0 y2).2 ⟨p, p0, p2, h⟩)
    · rw [e1, i] at h
      have := h.1
      simp at this
      omega
  · have b := hd.lt (n + y) (by omega) (by omega)
    unfold vD
    rw [show n + (d (n + y) - n) = d (n + y) by omega, hd.inv _ (by omega) (by omega)]; omega
  · have := hd.ne (n + y) (by omega) (by omega)
    unfold vD; omega
theorem free_e (hd : Mt n d) (he : Mt n e) (h1 : 1 ≤ n) (h8 : n ≤ 8) : Free n (metA n d e) e := by
  have mid : ∀ y, 0 ≤ y → y < n → ¬ On (metA n d e) y → e y < n := by
    intro y y0 y2 hy
    refine Decidable.byContradiction fun c => hy ?_
    have b := he.lt y y0 (by omega)
    have i := he.inv y y0 (by omega)
    refine (metA_on hd he h1 h8 y y0 y2).2 ⟨e y, b.1, b.2, ?_⟩
    have := lP_head_l hd he h1 h8 (e y) (by omega) b.2 (by omega)
    rwa [i] at this
  refine ⟨fun y y0 y2 hy => ?_, fun y y0 y2 hy x => ?_, fun y y0 y2 hy => he.inv y y0 (by omega), fun y y0 y2 hy => he.ne y y0 (by omega)⟩
  · have b := he.lt y y0 (by omega)
    have := mid y y0 y2 hy
    omega
  · have b := he.lt y y0 (by omega)
    have i := he.inv y y0 (by omega)
    have m := mid y y0 y2 hy
    obtain ⟨p, p0, p2, hp⟩ := (metA_on hd he h1 h8 _ b.1 m).1 x
    rcases fol_b hd he 17 _ p _ _ p0 p2 (fol_p hd he h1 h8 p0 p2) _ hp (by rw [i]; omega) with h | h
    · rw [i] at h
      exact hy ((metA_on hd he h1 h8 y y0 y2).2 ⟨p, p0, p2, h⟩)
    · rw [i] at h
      have := h.1
      simp at this
      omega
/-- The number of loops of a product. -/
def loopsP (n : Int) (d e : Int → Int) : Int := (lps e (vD n d) (metA n d e) n.toNat).2
theorem loops_eq (hd : Mt n d) (he : Mt n e) (h1 : 1 ≤ n) (h8 : n ≤ 8) : (lps (vD n d) e (metA n d e) n.toNat).2 = loopsP n d e := by
  rw [loopsP, (lps_swap (metA_len n d e) h8 (free_e hd he h1 h8) (free_d hd he h1 h8) n.toNat (by omega)).1]
/-- The mates of the product, of the first k points; and of the first k above and below. -/
def prI (n : Int) (d e : Int → Int) : Nat → List Int
  | 0 => zeros
  | k + 1 => (prI n d e k).set k (eP n d e k)
def prS (n : Int) (d e : Int → Int) : Nat → List Int
  | 0 => zeros
  | k + 1 => ((prS n d e k).set k (eP n d e k)).set (n + k).toNat (eP n d e (n + k))
theorem prI_len (n : Int) (d e : Int → Int) (k : Nat) : (prI n d e k).length = 16 := by
  induction k with
  | zero => rfl
  | succ k ih => simp [prI, ih]
theorem prS_len (n : Int) (d e : Int → Int) (k : Nat) : (prS n d e k).length = 16 := by
  induction k with
  | zero => rfl
  | succ k ih => simp [prS, ih]
theorem prI_get (h8 : n ≤ 8) (k : Nat) (hk : (k : Int) ≤ 2 * n) (j : Nat) : (prI n d e k).getD j 0 = if j < k then eP n d e j else 0 := by
  induction k with
  | zero => rw [if_neg (by omega)]; exact zeros_get j
  | succ k ih =>
    rw [prI, set_get _ (prI_len n d e k) _ (by omega), ih (by omega)]
    by_cases x : j = k
    · subst x; rw [if_pos rfl, if_pos (by omega)]
    · rw [if_neg x]
      by_cases y : j < k
      · rw [if_pos y, if_pos (by omega)]
      · rw [if_neg y, if_neg (by omega)]
theorem prS_get (h8 : n ≤ 8) (k : Nat) (hk : (k : Int) ≤ n) (j : Nat) : (prS n d e k).getD j 0 = if j < k ∨ (n ≤ j ∧ (j : Int) < n + k) then eP n d e j else 0 := by
  induction k with
  | zero => rw [if_neg (by omega)]; exact zeros_get j
  | succ k ih =>
    rw [prS, set_get _ (by simp [prS_len]) _ (by omega), set_get _ (prS_len n d e k) _ (by omega), ih (by omega)]
    by_cases x : j = (n + k).toNat
    · rw [if_pos x, if_pos (by omega), show ((j : Nat) : Int) = n + k by omega]
    · rw [if_neg x]
      by_cases y : j = k
      · subst y; rw [if_pos rfl, if_pos (by omega)]
      · rw [if_neg y]
        by_cases z : j < k ∨ (n ≤ j ∧ (j : Int) < n + k)
        · rw [if_pos z, if_pos (by omega)]
        · rw [if_neg z, if_neg (by omega)]
/-- The mates of the product. -/
def prodL (n : Int) (d e : Int → Int) : List Int := prI n d e (2 * n).toNat
theorem prodL_len (n : Int) (d e : Int → Int) : (prodL n d e).length = 16 := prI_len _ _ _ _
theorem prod_eq (h1 : 1 ≤ n) (h8 : n ≤ 8) : prS n d e n.toNat = prodL n d e := by
  apply List.ext_getElem (by rw [prodL_len, prS_len])
  intro j a b
  have g1 : (prS n d e n.toNat).getD j 0 = (prS n d e n.toNat)[j] := by rw [List.getD_eq_getElem?_getD, List.getElem?_eq_getElem a]; rfl
  have g2 : (prodL n d e).getD j 0 = (prodL n d e)[j] := by rw [List.getD_eq_getElem?_getD, List.getElem?_eq_getElem b]; rfl
  rw [← g1, ← g2, prS_get h8 _ (by omega), prodL, prI_get h8 _ (by omega)]
  by_cases c : j < (2 * n).toNat
  · rw [if_pos c, if_pos (by omega)]
  · rw [if_neg c, if_neg (by omega)]
end
end Go.Proofs.YtopenojociafaaaDoor
