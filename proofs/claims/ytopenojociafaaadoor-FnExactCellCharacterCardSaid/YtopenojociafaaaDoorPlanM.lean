/- Plain mathematics: the product of two diagrams is a diagram. -/
import Derived.Test.YtopenojociafaaaDoorProdM
namespace Go.Proofs.YtopenojociafaaaDoor
open LoopM
set_option linter.unusedVariables false
section
variable {n : Int} {d e : Int → Int}
/-- Where a way along a line ends. -/
def Ends (n : Int) (d e : Int → Int) (up : Bool) (i R : Int) : Prop := ∃ k M, fol n d e k up i = some (R, M)
theorem Ends.det {up : Bool} {i R R' : Int} (h : Ends n d e up i R) (h' : Ends n d e up i R') : R = R' := by
  obtain ⟨k, M, h⟩ := h
  obtain ⟨k', M', h'⟩ := h'
  rcases Nat.le_total k k' with c | c
  · have := fol_le c h; rw [this] at h'; simp at h'; exact h'.1
  · have := fol_le c h'; rw [this] at h; simp at h; exact h.1.symm
theorem Ends.t {i R : Int} (h : n ≤ d i) (hr : Ends n d e false (d i - n) R) : Ends n d e true i R := by
  obtain ⟨k, M, hk⟩ := hr
  exact ⟨k + 1, _, by rw [fol, if_neg (by omega), hk]; rfl⟩
theorem Ends.f {i R : Int} (h : e i < n) (hr : Ends n d e true (n + e i) R) : Ends n d e false i R := by
  obtain ⟨k, M, hk⟩ := hr
  exact ⟨k + 1, _, by rw [fol, if_neg (by omega), hk]; rfl⟩
theorem Ends.t0 {i : Int} (h : d i < n) : Ends n d e true i (d i) := ⟨1, [], by rw [fol, if_pos h]⟩
theorem Ends.f0 {i : Int} (h : n ≤ e i) : Ends n d e false i (e i) := ⟨1, [], by rw [fol, if_pos h]⟩
/-- The way back from a state leads to p. -/
def Back (n : Int) (d e : Int → Int) (p : Int) : Bool → Int → Prop
  | true, i => (i = p ∧ i < n) ∨ (n ≤ i ∧ Ends n d e false (i - n) p)
  | false, i => (i = p ∧ n ≤ i) ∨ (i < n ∧ Ends n d e true (n + i) p)
/-- From a middle point the two ways lead to these two ends. -/
def Both (n : Int) (d e : Int → Int) (y p E : Int) : Prop := (Ends n d e false y E ∧ Ends n d e true (n + y) p) ∨ (Ends n d e true (n + y) E ∧ Ends n d e false y p)
theorem fol_both (hd : Mt n d) (he : Mt n e) (p : Int) (k : Nat) : ∀ (up : Bool) (i E : Int) (L : List Int), 0 ≤ i → i < 2 * n → Back n d e p up i → fol n d e k up i = some (E, L) → (∀ y ∈ L, Both n d e y p E) ∧ Ends n d e (decide (E < n)) E p := by
  induction k with
  | zero => intro up i E L _ _ _ h; simp [fol] at h
  | succ k ih =>
    intro up i E L i0 i2 hb h
    cases up with
    | true =>
      have db := hd.lt i i0 i2
      have di := hd.inv i i0 i2
      obtain ⟨f, hf, hc⟩ := fol_t h
      have hf : k = f := by omega
      subst hf
      rcases hc with ⟨c, rfl, rfl⟩ | ⟨c, L', rfl, h'⟩
      · refine ⟨by simp, ?_⟩
        rw [show decide (d i < n) = true by simp [c]]
        rcases hb with ⟨rfl, h1⟩ | ⟨h1, h2⟩
        · have := Ends.t0 (n := n) (d := d) (e := e) (i := d i) (by rw [di]; exact h1)
          rwa [di] at this
        · exact Ends.t (by rw [di]; exact h1) (by rw [di]; exact h2)
      · have hb2 : Ends n d e true (d i) p := by
          rcases hb with ⟨rfl, h1⟩ | ⟨h1, h2⟩
          · have := Ends.t0 (n := n) (d := d) (e := e) (i := d i) (by rw [di]; exact h1)
            rwa [di] at this
          · exact Ends.t (by rw [di]; exact h1) (by rw [di]; exact h2)
        have hh := ih false (d i - n) E L' (by omega) (by omega) (.inr ⟨by omega, by rw [show n + (d i - n) = d i by omega]; exact hb2⟩) h'
        refine ⟨fun y hy => ?_, hh.2⟩
        rcases List.mem_cons.1 hy with rfl | hy
        · exact .inl ⟨⟨_, _, h'⟩, by rw [show n + (d i - n) = d i by omega]; exact hb2⟩
        · exact hh.1 y hy
    | false =>
      have db := he.lt i i0 i2
      have di := he.inv i i0 i2
      obtain ⟨f, hf, hc⟩ := fol_f h
      have hf : k = f := by omega
      subst hf
      rcases hc with ⟨c, rfl, rfl⟩ | ⟨c, L', rfl, h'⟩
      · refine ⟨by simp, ?_⟩
        rw [show decide (e i < n) = false by simp [c]]
        rcases hb with ⟨rfl, h1⟩ | ⟨h1, h2⟩
        · have := Ends.f0 (n := n) (d := d) (e := e) (i := e i) (by rw [di]; exact h1)
          rwa [di] at this
        · exact Ends.f (by rw [di]; exact h1) (by rw [di]; exact h2)
      · have hb2 : Ends n d e false (e i) p := by
          rcases hb with ⟨rfl, h1⟩ | ⟨h1, h2⟩
          · have := Ends.f0 (n := n) (d := d) (e := e) (i := e i) (by rw [di]; exact h1)
            rwa [di] at this
          · exact Ends.f (by rw [di]; exact h1) (by rw [di]; exact h2)
        have hh := ih true (n + e i) E L' (by omega) (by omega) (.inr ⟨by omega, by rw [show n + e i - n = e i by omega]; exact hb2⟩) h'
        refine ⟨fun y hy => ?_, hh.2⟩
        rcases List.mem_cons.1 hy with rfl | hy
        · exact .inr ⟨⟨_, _, h'⟩, hb2⟩
        · exact hh.1 y hy
theorem back_outer {p : Int} : Back n d e p (decide (p < n)) p := by
  by_cases c : p < n
  · rw [show decide (p < n) = true by simp [c]]; exact .inl ⟨rfl, c⟩
  · rw [show decide (p < n) = false by simp [c]]; exact .inl ⟨rfl, by omega⟩
theorem eP_inv (hd : Mt n d) (he : Mt n e) (h1 : 1 ≤ n) (h8 : n ≤ 8) {p : Int} (h0 : 0 ≤ p) (h2 : p < 2 * n) : eP n d e (eP n d e p) = p := by
  have hf := fol_p hd he h1 h8 h0 h2
  have b := (p_bd hd he h1 h8 h0 h2).1
  have := (fol_both hd he p 17 _ p _ _ h0 h2 back_outer hf).2
  exact Ends.det ⟨17, _, fol_p hd he h1 h8 b.1 b.2⟩ this
/-- Lines with a common middle point are one line. -/
theorem lP_meet (hd : Mt n d) (he : Mt n e) (h1 : 1 ≤ n) (h8 : n ≤ 8) {p q y : Int} (h0 : 0 ≤ p) (h2 : p < 2 * n) (k0 : 0 ≤ q) (k2 : q < 2 * n) (hp : y ∈ lP n d e p) (hq : y ∈ lP n d e q) : q = p ∨ q = eP n d e p := by
  have A := (fol_both hd he p 17 _ p _ _ h0 h2 back_outer (fol_p hd he h1 h8 h0 h2)).1 y hp
  have B := (fol_both hd he q 17 _ q _ _ k0 k2 back_outer (fol_p hd he h1 h8 k0 k2)).1 y hq
  rcases A with ⟨a1, a2⟩ | ⟨a1, a2⟩ <;> rcases B with ⟨b1, b2⟩ | ⟨b1, b2⟩
  · exact .inl (b2.det a2)
  · exact .inr (b2.det a1)
  · exact .inr (b2.det a1)
  · exact .inl (b2.det a2)
/-- Lines do not cross. -/
def NC (n : Int) (d : Int → Int) : Prop := ∀ a u, 0 ≤ a → a < 2 * n → 0 ≤ u → u < 2 * n → ¬ (pl n a < pl n u ∧ pl n u < pl n (d a) ∧ pl n (d a) < pl n (d u))
def ib (p : Prop) [Decidable p] : Int := if p then 1 else 0
theorem pl_inj {a b : Int} (a0 : 0 ≤ a) (a2 : a < 2 * n) (b0 : 0 ≤ b) (b2 : b < 2 * n) (h : pl n a = pl n b) : a = b := by
  unfold pl at h
  split at h <;> split at h <;> omega
theorem chord_par (hd : Mt n d) (hn : NC n d) {a u : Int} (a0 : 0 ≤ a) (a2 : a < 2 * n) (u0 : 0 ≤ u) (u2 : u < 2 * n) (h1 : u ≠ a) (h2 : u ≠ d a) :
    (ib (pl n a < pl n u) + ib (pl n (d a) < pl n u) - ib (pl n a < pl n (d u)) - ib (pl n (d a) < pl n (d u))) % 2 = 0 := by
  have ab := hd.lt a a0 a2
  have ub := hd.lt u u0 u2
  have ai := hd.inv a a0 a2
  have ui := hd.inv u u0 u2
  have x1 := hn a u a0 a2 u0 u2
  have x2 := hn a (d u) a0 a2 ub.1 ub.2
  have x3 := hn (d a) u ab.1 ab.2 u0 u2
  have x4 := hn (d a) (d u) ab.1 ab.2 ub.1 ub.2
  have y1 := hn u a u0 u2 a0 a2
  have y2 := hn (d u) a ub.1 ub.2 a0 a2
  have y3 := hn u (d a) u0 u2 ab.1 ab.2
  have y4 := hn (d u) (d a) ub.1 ub.2 ab.1 ab.2
  rw [ui] at x2 x4 y2 y4
  rw [ai] at x3 x4 y3 y4
  have n1 : pl n u ≠ pl n a := fun h => h1 (pl_inj u0 u2 a0 a2 h)
  have n2 : pl n u ≠ pl n (d a) := fun h => h2 (pl_inj u0 u2 ab.1 ab.2 h)
  have n3 : pl n (d u) ≠ pl n a := fun h => h2 (by rw [← pl_inj ub.1 ub.2 a0 a2 h, ui])
  have n4 : pl n (d u) ≠ pl n (d a) := fun h => h1 (by rw [← ui, pl_inj ub.1 ub.2 ab.1 ab.2 h, ai])
  have n5 : pl n (d u) ≠ pl n u := fun h => hd.ne u u0 u2 (pl_inj ub.1 ub.2 u0 u2 h)
  have n6 : pl n (d a) ≠ pl n a := fun h => hd.ne a a0 a2 (pl_inj ab.1 ab.2 a0 a2 h)
  clear hn hd h1 h2 ai ui ab ub a0 a2 u0 u2
  generalize pl n a = A at *
  generalize pl n (d a) = B at *
  generalize pl n u = U at *
  generalize pl n (d u) = V at *
  have L : ∀ {x z : Int}, x < z → ib (x < z) = 1 := fun h => if_pos h
  have G : ∀ {x z : Int}, z < x → ib (x < z) = 0 := fun h => if_neg (by omega)
  rcases Int.lt_or_gt_of_ne n1 with h1 | h1 <;> rcases Int.lt_or_gt_of_ne n2 with h2 | h2 <;> rcases Int.lt_or_gt_of_ne n3 with h3 | h3 <;> rcases Int.lt_or_gt_of_ne n4 with h4 | h4 <;>
    first
    | (rw [G h1, G h2, G h3, G h4]; rfl) | (rw [L h1, L h2, L h3, L h4]; rfl)
    | (rw [G h1, G h2, L h3, L h4]; rfl) | (rw [L h1, L h2, G h3, G h4]; rfl)
    | (rw [G h1, L h2, G h3, L h4]; rfl) | (rw [L h1, G h2, L h3, G h4]; rfl)
    | (rw [G h1, L h2, L h3, G h4]; rfl) | (rw [L h1, G h2, G h3, L h4]; rfl)
    | exact (x1 ⟨by assumption, by assumption, by assumption⟩).elim | exact (x2 ⟨by assumption, by assumption, by assumption⟩).elim
    | exact (x3 ⟨by assumption, by assumption, by assumption⟩).elim | exact (x4 ⟨by assumption, by assumption, by assumption⟩).elim
    | exact (y1 ⟨by assumption, by assumption, by assumption⟩).elim | exact (y2 ⟨by assumption, by assumption, by assumption⟩).elim
    | exact (y3 ⟨by assumption, by assumption, by assumption⟩).elim | exact (y4 ⟨by assumption, by assumption, by assumption⟩).elim
/-- How many ends of a way's lines, on the side of d or of e, come ahead of a place. -/
def cD (n : Int) (d e : Int → Int) : Nat → Bool → Int → Int → Int
  | 0, _, _, _ => 0
  | k + 1, true, i, x => ib (pl n i < x) + ib (pl n (d i) < x) + (if d i < n then 0 else cD n d e k false (d i - n) x)
  | k + 1, false, i, x => if n ≤ e i then 0 else cD n d e k true (n + e i) x
def cE (n : Int) (d e : Int → Int) : Nat → Bool → Int → Int → Int
  | 0, _, _, _ => 0
  | k + 1, true, i, x => if d i < n then 0 else cE n d e k false (d i - n) x
  | k + 1, false, i, x => ib (pl n i < x) + ib (pl n (e i) < x) + (if n ≤ e i then 0 else cE n d e k true (n + e i) x)
/-- A point of d, or of e, does not lie on a way. -/
def OffD (n : Int) (d e : Int → Int) : Nat → Bool → Int → Int → Prop
  | 0, _, _, _ => True
  | k + 1, true, i, u => u ≠ i ∧ u ≠ d i ∧ (n ≤ d i → OffD n d e k false (d i - n) u)
  | k + 1, false, i, u => e i < n → OffD n d e k true (n + e i) u
def OffE (n : Int) (d e : Int → Int) : Nat → Bool → Int → Int → Prop
  | 0, _, _, _ => True
  | k + 1, true, i, u => n ≤ d i → OffE n d e k false (d i - n) u
  | k + 1, false, i, u => u ≠ i ∧ u ≠ e i ∧ (e i < n → OffE n d e k true (n + e i) u)
theorem cD_par (hd : Mt n d) (he : Mt n e) (hn : NC n d) {u : Int} (u0 : 0 ≤ u) (u2 : u < 2 * n) (k : Nat) : ∀ (up : Bool) (i : Int), 0 ≤ i → i < 2 * n → OffD n d e k up i u → (cD n d e k up i (pl n u) - cD n d e k up i (pl n (d u))) % 2 = 0 := by
  induction k with
  | zero => intro up i _ _ _; simp [cD]
  | succ k ih =>
    intro up i i0 i2 h
    cases up with
    | true =>
      have b := hd.lt i i0 i2
      have x := chord_par hd hn i0 i2 u0 u2 h.1 h.2.1
      unfold cD
      split
      · omega
      · have := ih false (d i - n) (by omega) (by omega) (h.2.2 (by omega)); omega
    | false =>
      have b := he.lt i i0 i2
      unfold cD
      split
      · rfl
      · exact ih true (n + e i) (by omega) (by omega) (h (by omega))
theorem cE_par (hd : Mt n d) (he : Mt n e) (hn : NC n e) {u : Int} (u0 : 0 ≤ u) (u2 : u < 2 * n) (k : Nat) : ∀ (up : Bool) (i : Int), 0 ≤ i → i < 2 * n → OffE n d e k up i u → (cE n d e k up i (pl n u) - cE n d e k up i (pl n (e u))) % 2 = 0 := by
  induction k with
  | zero => intro up i _ _ _; simp [cE]
  | succ k ih =>
    intro up i i0 i2 h
    cases up with
    | false =>
      have b := he.lt i i0 i2
      have x := chord_par he hn i0 i2 u0 u2 h.1 h.2.1
      unfold cE
      split
      · omega
      · have := ih true (n + e i) (by omega) (by omega) (h.2.2 (by omega)); omega
    | true =>
      have b := hd.lt i i0 i2
      unfold cE
      split
      · rfl
      · exact ih false (d i - n) (by omega) (by omega) (h (by omega))
/-- At a middle point that is not on the way, the two counts differ by what does not depend on the point. -/
theorem mid_par (hd : Mt n d) (he : Mt n e) {y : Int} (y0 : 0 ≤ y) (y2 : y < n) (k : Nat) : ∀ (up : Bool) (i E : Int) (L : List Int), 0 ≤ i → i < 2 * n → fol n d e k up i = some (E, L) → y ∉ L → (up = true → n ≤ i → i - n ≠ y) → (up = false → i < n → i ≠ y) →
    (cD n d e k up i (2 * n - 1 - y) + cE n d e k up i y - L.length - ib (E < n) - (if up = true then (if i < n then 1 else ib (y < i - n)) else (if n ≤ i then 0 else ib (i < y)))) % 2 = 0 := by
  induction k with
  | zero => intro up i E L _ _ h; simp [fol] at h
  | succ k ih =>
    intro up i E L i0 i2 h hy hu hf
    cases up with
    | true =>
      have b := hd.lt i i0 i2
      obtain ⟨f, hff, hc⟩ := fol_t h
      have hff : k = f := by omega
      subst hff
      have P : ib (pl n i < 2 * n - 1 - y) = if i < n then 1 else ib (y < i - n) := by
        by_cases c : i < n
        · rw [show pl n i = i by unfold pl; rw [if_pos c], if_pos c]
          unfold ib
          rw [if_pos (by omega)]
        · rw [show pl n i = 3 * n - 1 - i by unfold pl; rw [if_neg c], if_neg c]
          have := hu rfl (by omega)
          unfold ib
          by_cases c2 : y < i - n
          · rw [if_pos c2, if_pos (by omega)]
          · rw [if_neg c2, if_neg (by omega)]
      rw [if_pos rfl, ← P]
      rcases hc with ⟨c, rfl, rfl⟩ | ⟨c, L', rfl, h'⟩
      · unfold cD cE
        rw [if_pos c, if_pos c]
        have : ib (pl n (d i) < 2 * n - 1 - y) = ib (d i < n) := by
          rw [show pl n (d i) = d i by unfold pl; rw [if_pos c]]
          unfold ib
          rw [if_pos c, if_pos (by omega)]
        rw [this]
        simp
      · simp only [List.mem_cons, not_or] at hy
        have x := ih false (d i - n) E L' (by omega) (by omega) h' hy.2 (by simp) (fun _ _ e => hy.1 e.symm)
        rw [if_neg (by simp), if_neg (by omega)] at x
        unfold cD cE
        rw [if_neg (by omega), if_neg (by omega)]
        have : ib (pl n (d i) < 2 * n - 1 - y) + ib (d i - n < y) = 1 := by
          rw [show pl n (d i) = 3 * n - 1 - d i by unfold pl; rw [if_neg (by omega)]]
          have := hy.1
          unfold ib
          by_cases c2 : d i - n < y
          · rw [if_pos c2, if_neg (by omega)]; rfl
          · rw [if_neg c2, if_pos (by omega)]; rfl
        simp only [List.length_cons]
        omega
    | false =>
      have b := he.lt i i0 i2
      obtain ⟨f, hff, hc⟩ := fol_f h
      have hff : k = f := by omega
      subst hff
      have P : ib (pl n i < y) = if n ≤ i then 0 else ib (i < y) := by
        by_cases c : n ≤ i
        · rw [show pl n i = 3 * n - 1 - i by unfold pl; rw [if_neg (by omega)], if_pos c]
          unfold ib
          rw [if_neg (by omega)]
        · rw [show pl n i = i by unfold pl; rw [if_pos (by omega)], if_neg c]
      rw [if_neg (by simp), ← P]
      rcases hc with ⟨c, rfl, rfl⟩ | ⟨c, L', rfl, h'⟩
      · unfold cD cE
        rw [if_pos c, if_pos c]
        have : ib (pl n (e i) < y) = ib (e i < n) := by
          rw [show pl n (e i) = 3 * n - 1 - e i by unfold pl; rw [if_neg (by omega)]]
          unfold ib
          rw [if_neg (by omega), if_neg (by omega)]
        rw [this]
        simp
      · simp only [List.mem_cons, not_or] at hy
        have x := ih true (n + e i) E L' (by omega) (by omega) h' hy.2 (fun _ _ z => hy.1 (by omega)) (by simp)
        rw [if_pos rfl, if_neg (by omega), show n + e i - n = e i by omega] at x
        unfold cD cE
        rw [if_neg (by omega), if_neg (by omega)]
        have : ib (pl n (e i) < y) + ib (y < e i) = 1 := by
          rw [show pl n (e i) = e i by unfold pl; rw [if_pos (by omega)]]
          have := hy.1
          unfold ib
          by_cases c2 : e i < y
          · rw [if_pos c2, if_neg (by omega)]; rfl
          · rw [if_neg c2, if_pos (by omega)]; rfl
        simp only [List.length_cons]
        omega
theorem offE_mid (hd : Mt n d) (he : Mt n e) {y : Int} (y2 : y < n) (k : Nat) : ∀ (up : Bool) (i E : Int) (L : List Int), 0 ≤ i → i < 2 * n → fol n d e k up i = some (E, L) → y ∉ L → (up = false → i < n → i ≠ y) → OffE n d e k up i y := by
  induction k with
  | zero => intro up i E L _ _ h; simp [fol] at h
  | succ k ih =>
    intro up i E L i0 i2 h hy hf
    cases up with
    | true =>
      have b := hd.lt i i0 i2
      obtain ⟨f, hff, hc⟩ := fol_t h
      have hff : k = f := by omega
      subst hff
      unfold OffE
      intro c
      rcases hc with ⟨c', _⟩ | ⟨_, L', rfl, h'⟩
      · omega
      · simp only [List.mem_cons, not_or] at hy
        exact ih false _ E L' (by omega) (by omega) h' hy.2 (fun _ _ z => hy.1 z.symm)
    | false =>
      have b := he.lt i i0 i2
      obtain ⟨f, hff, hc⟩ := fol_f h
      have hff : k = f := by omega
      subst hff
      unfold OffE
      rcases hc with ⟨c, rfl, rfl⟩ | ⟨c, L', rfl, h'⟩
      · refine ⟨fun z => ?_, by omega, fun z => absurd z (by omega)⟩
        have := hf rfl (by omega); omega
      · simp only [List.mem_cons, not_or] at hy
        refine ⟨fun z => ?_, hy.1, fun _ => ih true _ E L' (by omega) (by omega) h' hy.2 (by simp)⟩
        have := hf rfl (by omega); omega
theorem offD_mid (hd : Mt n d) (he : Mt n e) {y : Int} (y0 : 0 ≤ y) (k : Nat) : ∀ (up : Bool) (i E : Int) (L : List Int), 0 ≤ i → i < 2 * n → fol n d e k up i = some (E, L) → y ∉ L → (up = true → i ≠ n + y) → OffD n d e k up i (n + y) := by
  induction k with
  | zero => intro up i E L _ _ h; simp [fol] at h
  | succ k ih =>
    intro up i E L i0 i2 h hy hf
    cases up with
    | true =>
      have b := hd.lt i i0 i2
      obtain ⟨f, hff, hc⟩ := fol_t h
      have hff : k = f := by omega
      subst hff
      unfold OffD
      rcases hc with ⟨c, rfl, rfl⟩ | ⟨c, L', rfl, h'⟩
      · exact ⟨fun z => hf rfl z.symm, by omega, fun z => absurd z (by omega)⟩
      · simp only [List.mem_cons, not_or] at hy
        exact ⟨fun z => hf rfl z.symm, by omega, fun _ => ih false _ E L' (by omega) (by omega) h' hy.2 (by simp)⟩
    | false =>
      have b := he.lt i i0 i2
      obtain ⟨f, hff, hc⟩ := fol_f h
      have hff : k = f := by omega
      subst hff
      unfold OffD
      intro c
      rcases hc with ⟨c', _⟩ | ⟨_, L', rfl, h'⟩
      · omega
      · simp only [List.mem_cons, not_or] at hy
        exact ih true _ E L' (by omega) (by omega) h' hy.2 (fun _ => by omega)
theorem offD_out (hd : Mt n d) (he : Mt n e) {q : Int} (q2 : q < n) (k : Nat) : ∀ (up : Bool) (i E : Int) (L : List Int), 0 ≤ i → i < 2 * n → fol n d e k up i = some (E, L) → q ≠ E → (up = true → i ≠ q) → OffD n d e k up i q := by
  induction k with
  | zero => intro up i E L _ _ h; simp [fol] at h
  | succ k ih =>
    intro up i E L i0 i2 h hy hf
    cases up with
    | true =>
      have b := hd.lt i i0 i2
      obtain ⟨f, hff, hc⟩ := fol_t h
      have hff : k = f := by omega
      subst hff
      unfold OffD
      rcases hc with ⟨c, rfl, rfl⟩ | ⟨c, L', rfl, h'⟩
      · exact ⟨fun z => hf rfl z.symm, hy, fun z => absurd z (by omega)⟩
      · exact ⟨fun z => hf rfl z.symm, by omega, fun _ => ih false _ E L' (by omega) (by omega) h' hy (by simp)⟩
    | false =>
      have b := he.lt i i0 i2
      obtain ⟨f, hff, hc⟩ := fol_f h
      have hff : k = f := by omega
      subst hff
      unfold OffD
      intro c
      rcases hc with ⟨c', _⟩ | ⟨_, L', rfl, h'⟩
      · omega
      · exact ih true _ E L' (by omega) (by omega) h' hy (fun _ => by omega)
theorem offE_out (hd : Mt n d) (he : Mt n e) {q : Int} (q2 : n ≤ q) (k : Nat) : ∀ (up : Bool) (i E : Int) (L : List Int), 0 ≤ i → i < 2 * n → fol n d e k up i = some (E, L) → q ≠ E → (up = false → i ≠ q) → OffE n d e k up i q := by
  induction k with
  | zero => intro up i E L _ _ h; simp [fol] at h
  | succ k ih =>
    intro up i E L i0 i2 h hy hf
    cases up with
    | true =>
      have b := hd.lt i i0 i2
      obtain ⟨f, hff, hc⟩ := fol_t h
      have hff : k = f := by omega
      subst hff
      unfold OffE
      intro c
      rcases hc with ⟨c', _⟩ | ⟨_, L', rfl, h'⟩
      · omega
      · exact ih false _ E L' (by omega) (by omega) h' hy (fun _ => by omega)
    | false =>
      have b := he.lt i i0 i2
      obtain ⟨f, hff, hc⟩ := fol_f h
      have hff : k = f := by omega
      subst hff
      unfold OffE
      rcases hc with ⟨c, rfl, rfl⟩ | ⟨c, L', rfl, h'⟩
      · exact ⟨fun z => hf rfl z.symm, hy, fun z => absurd z (by omega)⟩
      · exact ⟨fun z => hf rfl z.symm, by omega, fun _ => ih true _ E L' (by omega) (by omega) h' hy (by simp)⟩
theorem pl_up {x : Int} (h : x < n) : pl n x = x := by unfold pl; rw [if_pos h]
theorem pl_dn {x : Int} (h : n ≤ x) : pl n x = 3 * n - 1 - x := by unfold pl; rw [if_neg (by omega)]
theorem ib_one {a b : Int} (h : a < b) : ib (a < b) = 1 := if_pos h
theorem ib_no {a b : Int} (h : b ≤ a) : ib (a < b) = 0 := if_neg (by omega)
theorem cD_out (hd : Mt n d) (he : Mt n e) {x : Int} (hx : x ≤ n) (k : Nat) : ∀ (up : Bool) (i E : Int) (L : List Int), 0 ≤ i → i < 2 * n → fol n d e k up i = some (E, L) → cD n d e k up i x = (if up = true then ib (pl n i < x) else 0) + (if E < n then ib (pl n E < x) else 0) := by
  induction k with
  | zero => intro up i E L _ _ h; simp [fol] at h
  | succ k ih =>
    intro up i E L i0 i2 h
    cases up with
    | true =>
      have b := hd.lt i i0 i2
      obtain ⟨f, hff, hc⟩ := fol_t h
      have hff : k = f := by omega
      subst hff
      unfold cD
      rcases hc with ⟨c, rfl, rfl⟩ | ⟨c, L', rfl, h'⟩
      · rw [if_pos c, if_pos c, if_pos rfl]; omega
      · have := ih false (d i - n) E L' (by omega) (by omega) h'
        rw [if_neg (by simp)] at this
        rw [if_neg (by omega), this, if_pos rfl, pl_dn c, ib_no (show x ≤ 3 * n - 1 - d i by omega)]; omega
    | false =>
      have b := he.lt i i0 i2
      obtain ⟨f, hff, hc⟩ := fol_f h
      have hff : k = f := by omega
      subst hff
      unfold cD
      rcases hc with ⟨c, rfl, rfl⟩ | ⟨c, L', rfl, h'⟩
      · rw [if_pos c, if_neg (by simp), if_neg (by omega)]; rfl
      · have := ih true (n + e i) E L' (by omega) (by omega) h'
        rw [if_pos rfl, pl_dn (show n ≤ n + e i by omega), ib_no (show x ≤ 3 * n - 1 - (n + e i) by omega)] at this
        rw [if_neg (by omega), this, if_neg (show ¬ (false = true) by simp)]
theorem cE_out (hd : Mt n d) (he : Mt n e) {x : Int} (hx : n ≤ x) (k : Nat) : ∀ (up : Bool) (i E : Int) (L : List Int), 0 ≤ i → i < 2 * n → fol n d e k up i = some (E, L) → cE n d e k up i x = L.length + (if up = true then 0 else ib (pl n i < x)) + (if E < n then 0 else ib (pl n E < x)) := by
  induction k with
  | zero => intro up i E L _ _ h; simp [fol] at h
  | succ k ih =>
    intro up i E L i0 i2 h
    cases up with
    | true =>
      have b := hd.lt i i0 i2
      obtain ⟨f, hff, hc⟩ := fol_t h
      have hff : k = f := by omega
      subst hff
      unfold cE
      rcases hc with ⟨c, rfl, rfl⟩ | ⟨c, L', rfl, h'⟩
      · rw [if_pos c, if_pos c, if_pos rfl]; simp
      · have := ih false (d i - n) E L' (by omega) (by omega) h'
        rw [if_neg (by simp), pl_up (show d i - n < n by omega), ib_one (show d i - n < x by omega)] at this
        rw [if_neg (by omega), this, if_pos rfl]; simp only [List.length_cons]; omega
    | false =>
      have b := he.lt i i0 i2
      obtain ⟨f, hff, hc⟩ := fol_f h
      have hff : k = f := by omega
      subst hff
      unfold cE
      rcases hc with ⟨c, rfl, rfl⟩ | ⟨c, L', rfl, h'⟩
      · rw [if_pos c, if_neg (by simp), if_neg (by omega)]; simp
      · have := ih true (n + e i) E L' (by omega) (by omega) h'
        rw [if_pos rfl] at this
        rw [if_neg (by omega), this, if_neg (show ¬ (false = true) by simp), pl_up c, ib_one (show e i < x by omega)]; simp only [List.length_cons]; omega
/-- The colour of a state beside the line from p. -/
def kap (n : Int) (d e : Int → Int) (p : Int) : Bool → Int → Int
  | true, i => cD n d e 17 (decide (p < n)) p (pl n i)
  | false, i => cE n d e 17 (decide (p < n)) p (pl n i) + (lP n d e p).length + ib (eP n d e p < n) + ib (p < n)
theorem kap_t (p i : Int) : kap n d e p true i = cD n d e 17 (decide (p < n)) p (pl n i) := rfl
theorem kap_f (p i : Int) : kap n d e p false i = cE n d e 17 (decide (p < n)) p (pl n i) + (lP n d e p).length + ib (eP n d e p < n) + ib (p < n) := rfl
theorem kap_par (hd : Mt n d) (he : Mt n e) (nd : NC n d) (ne : NC n e) (h1 : 1 ≤ n) (h8 : n ≤ 8) {p : Int} (h0 : 0 ≤ p) (h2 : p < 2 * n) (k : Nat) : ∀ (up : Bool) (i F : Int) (M : List Int), 0 ≤ i → i < 2 * n → fol n d e k up i = some (F, M) → (∀ y ∈ M, y ∉ lP n d e p) → (up = true → OffD n d e 17 (decide (p < n)) p i) → (up = false → OffE n d e 17 (decide (p < n)) p i) →
    (kap n d e p up i - kap n d e p (decide (F < n)) F) % 2 = 0 := by
  have hp := fol_p hd he h1 h8 h0 h2
  have mid : ∀ y, 0 ≤ y → y < n → y ∉ lP n d e p → (kap n d e p true (n + y) - kap n d e p false y) % 2 = 0 := by
    intro y y0 y2 hy
    have := mid_par hd he y0 y2 17 _ p _ _ h0 h2 hp hy (fun c h => by simp at c; omega) (fun c h => by simp at c; omega)
    rw [kap_t, kap_f, pl_dn (show n ≤ n + y by omega), pl_up y2, show 3 * n - 1 - (n + y) = 2 * n - 1 - y by omega]
    by_cases c : p < n
    · rw [if_pos (by simp [c]), if_pos c] at this
      rw [show ib (p < n) = 1 from if_pos c]; omega
    · rw [if_neg (by simp; omega), if_pos (by omega)] at this
      rw [show ib (p < n) = 0 from if_neg c]; omega
  induction k with
  | zero => intro up i E L _ _ h; simp [fol] at h
  | succ k ih =>
    intro up i F M i0 i2 h hM ht hf
    cases up with
    | true =>
      have b := hd.lt i i0 i2
      obtain ⟨f, hff, hc⟩ := fol_t h
      have hff : k = f := by omega
      subst hff
      have x : (kap n d e p true i - kap n d e p true (d i)) % 2 = 0 := cD_par hd he nd i0 i2 17 _ p h0 h2 (ht rfl)
      rcases hc with ⟨c, rfl, rfl⟩ | ⟨c, L', rfl, h'⟩
      · rw [show decide (d i < n) = true by simp [c]]; exact x
      · have hy := hM (d i - n) (by simp)
        have m := mid (d i - n) (by omega) (by omega) hy
        rw [show n + (d i - n) = d i by omega] at m
        have := ih false (d i - n) F L' (by omega) (by omega) h' (fun y hy => hM y (by simp [hy])) (by simp) (fun _ => offE_mid hd he (by omega) 17 _ p _ _ h0 h2 hp hy (fun c h => by simp at c; omega))
        omega
    | false =>
      have b := he.lt i i0 i2
      obtain ⟨f, hff, hc⟩ := fol_f h
      have hff : k = f := by omega
      subst hff
      have x0 := cE_par hd he ne i0 i2 17 _ p h0 h2 (hf rfl)
      have x : (kap n d e p false i - kap n d e p false (e i)) % 2 = 0 := by rw [kap_f, kap_f]; omega
      rcases hc with ⟨c, rfl, rfl⟩ | ⟨c, L', rfl, h'⟩
      · rw [show decide (e i < n) = false by simp [c]]; exact x
      · have hy := hM (e i) (by simp)
        have m := mid (e i) (by omega) (by omega) hy
        have := ih true (n + e i) F L' (by omega) (by omega) h' (fun y hy => hM y (by simp [hy])) (fun _ => offD_mid hd he (by omega) 17 _ p _ _ h0 h2 hp hy (fun c h => by simp at c; omega)) (by simp)
        omega
theorem kap_out (hd : Mt n d) (he : Mt n e) (h1 : 1 ≤ n) (h8 : n ≤ 8) {p q : Int} (h0 : 0 ≤ p) (h2 : p < 2 * n) (k0 : 0 ≤ q) (k2 : q < 2 * n) :
    (kap n d e p (decide (q < n)) q - ib (pl n p < pl n q) - ib (pl n (eP n d e p) < pl n q)) % 2 = 0 := by
  have hp := fol_p hd he h1 h8 h0 h2
  have b := (p_bd hd he h1 h8 h0 h2).1
  by_cases c : q < n
  · rw [show decide (q < n) = true by simp [c]]
    rw [kap_t, cD_out hd he (by rw [pl_up c]; omega) 17 _ p _ _ h0 h2 hp]
    by_cases c1 : p < n <;> by_cases c2 : eP n d e p < n
    · rw [if_pos (by simp [c1]), if_pos c2]; omega
    · rw [if_pos (by simp [c1]), if_neg c2, pl_up c, ib_no (show q ≤ pl n (eP n d e p) by rw [pl_dn (by omega)]; omega)]; omega
    · rw [if_neg (by simp; omega), if_pos c2, pl_up c, ib_no (show q ≤ pl n p by rw [pl_dn (by omega)]; omega)]; omega
    · rw [if_neg (by simp; omega), if_neg c2, pl_up c, ib_no (show q ≤ pl n p by rw [pl_dn (by omega)]; omega), ib_no (show q ≤ pl n (eP n d e p) by rw [pl_dn (by omega)]; omega)]; rfl
  · rw [show decide (q < n) = false by simp; omega]
    have hq : n ≤ pl n q := by rw [pl_dn (by omega)]; omega
    rw [kap_f, cE_out hd he hq 17 _ p _ _ h0 h2 hp]
    by_cases c1 : p < n <;> by_cases c2 : eP n d e p < n
    · rw [if_pos (by simp [c1]), if_pos c2, show ib (p < n) = 1 from if_pos c1, show ib (eP n d e p < n) = 1 from if_pos c2, ib_one (show pl n p < pl n q by rw [pl_up c1]; omega), ib_one (show pl n (eP n d e p) < pl n q by rw [pl_up c2]; omega)]; omega
    · rw [if_pos (by simp [c1]), if_neg c2, show ib (p < n) = 1 from if_pos c1, show ib (eP n d e p < n) = 0 from if_neg c2, ib_one (show pl n p < pl n q by rw [pl_up c1]; omega)]; omega
    · rw [if_neg (by simp; omega), if_pos c2, show ib (p < n) = 0 from if_neg c1, show ib (eP n d e p < n) = 1 from if_pos c2, ib_one (show pl n (eP n d e p) < pl n q by rw [pl_up c2]; omega)]; omega
    · rw [if_neg (by simp; omega), if_neg c2, show ib (p < n) = 0 from if_neg c1, show ib (eP n d e p < n) = 0 from if_neg c2]; omega
/-- Lines of the product do not cross. -/
theorem prod_nc (hd : Mt n d) (he : Mt n e) (nd : NC n d) (ne : NC n e) (h1 : 1 ≤ n) (h8 : n ≤ 8) : NC n (eP n d e) := by
  intro p q h0 h2 k0 k2 ⟨a, b, c⟩
  have hp := fol_p hd he h1 h8 h0 h2
  have hq := fol_p hd he h1 h8 k0 k2
  have bq := (p_bd hd he h1 h8 k0 k2).1
  have e1 : q ≠ p := fun h => by rw [h] at a; omega
  have e2 : q ≠ eP n d e p := fun h => by rw [h] at b; omega
  have x := kap_par hd he nd ne h1 h8 h0 h2 17 _ q _ _ k0 k2 hq (fun y hy hy' => by
    rcases lP_meet hd he h1 h8 h0 h2 k0 k2 hy' hy with h | h
    · exact e1 h
    · exact e2 h) (fun c => offD_out hd he (by simpa using c) 17 _ p _ _ h0 h2 hp e2 (fun _ h => e1 h.symm)) (fun c => offE_out hd he (by simp at c; omega) 17 _ p _ _ h0 h2 hp e2 (fun _ h => e1 h.symm))
  have y1 := kap_out hd he h1 h8 h0 h2 k0 k2
  have y2 := kap_out hd he h1 h8 h0 h2 bq.1 bq.2
  rw [ib_one a, ib_no (show pl n q ≤ pl n (eP n d e p) by omega)] at y1
  rw [ib_one (show pl n p < pl n (eP n d e q) by omega), ib_one c] at y2
  omega
/-- The places at the ends of a line are of different parity. -/
theorem even_iv (hd : Mt n d) (hn : NC n d) (m : Nat) : ∀ s t : Int, 0 ≤ s → t ≤ 2 * n → t - s = m → (∀ x, 0 ≤ x → x < 2 * n → s ≤ pl n x → pl n x < t → s ≤ pl n (d x) ∧ pl n (d x) < t) → (t - s) % 2 = 0 := by
  induction m using Nat.strongRecOn with
  | _ m ih =>
    intro s t s0 t2 hm hc
    by_cases c : s < t
    · -- the point with the place s
      obtain ⟨a, a0, a2, ha⟩ : ∃ a, 0 ≤ a ∧ a < 2 * n ∧ pl n a = s := by
        by_cases c1 : s < n
        · exact ⟨s, s0, by omega, pl_up c1⟩
        · exact ⟨3 * n - 1 - s, by omega, by omega, by rw [pl_dn (by omega)]; omega⟩
      have ab := hd.lt a a0 a2
      have ai := hd.inv a a0 a2
      have hb := hc a a0 a2 (by omega) (by omega)
      have n6 : pl n (d a) ≠ pl n a := fun h => hd.ne a a0 a2 (pl_inj ab.1 ab.2 a0 a2 h)
      have i1 := ih (pl n (d a) - (s + 1)).toNat (by omega) (s + 1) (pl n (d a)) (by omega) (by omega) (by omega) (by
        intro x x0 x2 y1 y2
        have xb := hd.lt x x0 x2
        have xi := hd.inv x x0 x2
        have z := hc x x0 x2 (by omega) (by omega)
        have w1 := hn a x a0 a2 x0 x2
        have p1 : pl n (d x) ≠ pl n a := fun h => by have := pl_inj xb.1 xb.2 a0 a2 h; rw [← this, xi] at y2; omega
        have p2 : pl n (d x) ≠ pl n (d a) := fun h => by have h2 := pl_inj xb.1 xb.2 ab.1 ab.2 h; have h3 : d (d x) = d (d a) := by rw [h2]
                                                         rw [xi, ai] at h3; rw [h3] at y1; omega
        refine ⟨by omega, Decidable.byContradiction fun h => w1 ⟨by omega, y2, by omega⟩⟩)
      have i2 := ih (t - (pl n (d a) + 1)).toNat (by omega) (pl n (d a) + 1) t (by omega) (by omega) (by omega) (by
        intro x x0 x2 y1 y2
        have xb := hd.lt x x0 x2
        have xi := hd.inv x x0 x2
        have z := hc x x0 x2 (by omega) (by omega)
        have w1 := hn a (d x) a0 a2 xb.1 xb.2
        rw [xi] at w1
        have p1 : pl n (d x) ≠ pl n a := fun h => by have := pl_inj xb.1 xb.2 a0 a2 h; rw [← this, xi] at y1; omega
        have p2 : pl n (d x) ≠ pl n (d a) := fun h => by have h2 := pl_inj xb.1 xb.2 ab.1 ab.2 h; have h3 : d (d x) = d (d a) := by rw [h2]
                                                         rw [xi, ai] at h3; rw [h3] at y1; omega
        refine ⟨Decidable.byContradiction fun h => w1 ⟨by omega, by omega, by omega⟩, z.2⟩)
      omega
    · by_cases c2 : t = s
      · omega
      · omega
theorem odd_mate (hd : Mt n d) (hn : NC n d) {a : Int} (a0 : 0 ≤ a) (a2 : a < 2 * n) : (pl n a + pl n (d a)) % 2 = 1 := by
  have key : ∀ a, 0 ≤ a → a < 2 * n → pl n a < pl n (d a) → (pl n a + pl n (d a)) % 2 = 1 := by
    intro a a0 a2 h
    have ab := hd.lt a a0 a2
    have ai := hd.inv a a0 a2
    have b1 := pl_lt n a a0 a2
    have b2 := pl_lt n (d a) ab.1 ab.2
    have := even_iv hd hn (pl n (d a) - (pl n a + 1)).toNat (pl n a + 1) (pl n (d a)) (by omega) (by omega) (by omega) (by
      intro x x0 x2 y1 y2
      have xb := hd.lt x x0 x2
      have xi := hd.inv x x0 x2
      have w1 := hn a x a0 a2 x0 x2
      have w2 := hn (d x) (d a) xb.1 xb.2 ab.1 ab.2
      have w3 := hn (d x) a xb.1 xb.2 a0 a2
      rw [xi] at w2 w3
      have p1 : pl n (d x) ≠ pl n a := fun h => by have := pl_inj xb.1 xb.2 a0 a2 h; rw [← this, xi] at y2; omega
      have p2 : pl n (d x) ≠ pl n (d a) := fun h => by have h2 := pl_inj xb.1 xb.2 ab.1 ab.2 h; have h3 : d (d x) = d (d a) := by rw [h2]
                                                       rw [xi, ai] at h3; rw [h3] at y1; omega
      exact ⟨Decidable.byContradiction fun h => w3 ⟨by omega, by omega, y2⟩, Decidable.byContradiction fun h => w1 ⟨by omega, y2, by omega⟩⟩)
    omega
  have ab := hd.lt a a0 a2
  have ai := hd.inv a a0 a2
  have n6 : pl n (d a) ≠ pl n a := fun h => hd.ne a a0 a2 (pl_inj ab.1 ab.2 a0 a2 h)
  by_cases h : pl n a < pl n (d a)
  · exact key a a0 a2 h
  · have := key (d a) ab.1 ab.2 (by rw [ai]; omega)
    rw [ai] at this; omega
theorem fol_odd (hd : Mt n d) (he : Mt n e) (nd : NC n d) (ne : NC n e) (k : Nat) : ∀ (up : Bool) (i E : Int) (L : List Int), 0 ≤ i → i < 2 * n → fol n d e k up i = some (E, L) → (pl n i + pl n E) % 2 = 1 := by
  induction k with
  | zero => intro up i E L _ _ h; simp [fol] at h
  | succ k ih =>
    intro up i E L i0 i2 h
    cases up with
    | true =>
      have b := hd.lt i i0 i2
      have o := odd_mate hd nd i0 i2
      obtain ⟨f, hff, hc⟩ := fol_t h
      have hff : k = f := by omega
      subst hff
      rcases hc with ⟨c, rfl, rfl⟩ | ⟨c, L', rfl, h'⟩
      · exact o
      · have := ih false (d i - n) E L' (by omega) (by omega) h'
        rw [pl_up (show d i - n < n by omega)] at this
        rw [pl_dn c] at o
        omega
    | false =>
      have b := he.lt i i0 i2
      have o := odd_mate he ne i0 i2
      obtain ⟨f, hff, hc⟩ := fol_f h
      have hff : k = f := by omega
      subst hff
      rcases hc with ⟨c, rfl, rfl⟩ | ⟨c, L', rfl, h'⟩
      · exact o
      · have := ih true (n + e i) E L' (by omega) (by omega) h'
        rw [pl_dn (show n ≤ n + e i by omega)] at this
        rw [pl_up c] at o
        omega
theorem prod_mt (hd : Mt n d) (he : Mt n e) (nd : NC n d) (ne : NC n e) (h1 : 1 ≤ n) (h8 : n ≤ 8) : Mt n (eP n d e) where
  lt := fun p h0 h2 => (p_bd hd he h1 h8 h0 h2).1
  inv := fun p h0 h2 => eP_inv hd he h1 h8 h0 h2
  ne := fun p h0 h2 h => by
    have := fol_odd hd he nd ne 17 _ p _ _ h0 h2 (fol_p hd he h1 h8 h0 h2)
    rw [h] at this; omega
theorem nc_of {ms : List Int} (hb : Bytes ms) (hs : IsS n ms) : NC n (mate ms) := by
  intro a u a0 a2 u0 u2 ⟨x, y, z⟩
  have ha := mate_lt hb hs a a0 a2
  have := hs.2.2 a.toNat u.toNat (by omega) (by omega)
  rw [show ((a.toNat : Nat) : Int) = a by omega, show ((u.toNat : Nat) : Int) = u by omega] at this
  unfold Cross lo hi at this
  omega
theorem prodL_get (h8 : n ≤ 8) (j : Nat) : (prodL n d e).getD j 0 = if (j : Int) < 2 * n then eP n d e j else 0 := by
  unfold prodL
  by_cases h : 0 ≤ n
  · rw [prI_get h8 _ (by omega)]
    by_cases c : (j : Int) < 2 * n
    · rw [if_pos c, if_pos (by omega)]
    · rw [if_neg c, if_neg (by omega)]
  · rw [show (2 * n).toNat = 0 by omega, if_neg (by omega)]; exact zeros_get j
theorem prod_mate (h8 : n ≤ 8) {p : Int} (h0 : 0 ≤ p) (h2 : p < 2 * n) : mate (prodL n d e) p = eP n d e p := by
  unfold mate
  rw [prodL_get h8, show ((p.toNat : Nat) : Int) = p by omega, if_pos h2]
/-- The product of two diagrams is a diagram. -/
theorem prod_bytes (hd : Mt n d) (he : Mt n e) (h1 : 1 ≤ n) (h8 : n ≤ 8) : Bytes (prodL n d e) := by
  intro x hx
  obtain ⟨j, hj, rfl⟩ := List.getElem_of_mem hx
  have g : (prodL n d e).getD j 0 = (prodL n d e)[j] := by rw [List.getD_eq_getElem?_getD, List.getElem?_eq_getElem hj]; rfl
  rw [← g, prodL_get h8]
  split
  · rename_i c
    have := (p_bd hd he h1 h8 (p := (j : Int)) (by omega) c).1; omega
  · omega
theorem prod_isS (hd : Mt n d) (he : Mt n e) (nd : NC n d) (ne : NC n e) (h1 : 1 ≤ n) (h8 : n ≤ 8) : IsS n (prodL n d e) := by
  have M := prod_mt hd he nd ne h1 h8
  have C := prod_nc hd he nd ne h1 h8
  refine ⟨⟨h1, h8⟩, fun i gi => ?_, fun i k gi gk => ?_⟩
  · unfold OkAt
    by_cases c : 2 * n ≤ (i : Int)
    · rw [if_pos c]
      unfold mate
      rw [Int.toNat_natCast, prodL_get h8, if_neg (by omega)]
    · rw [if_neg c, prod_mate h8 (by omega) (by omega)]
      have b := M.lt i (by omega) (by omega)
      rw [prod_mate h8 b.1 b.2]
      exact ⟨b.2, M.ne i (by omega) (by omega), M.inv i (by omega) (by omega)⟩
  · unfold Cross lo hi
    rw [prod_mate h8 (by omega) gi, prod_mate h8 (by omega) gk]
    have bi := M.lt i (by omega) gi
    have bk := M.lt k (by omega) gk
    have ii := M.inv i (by omega) gi
    have ik := M.inv k (by omega) gk
    have c1 := C i k (by omega) gi (by omega) gk
    have c2 := C i (eP n d e k) (by omega) gi bk.1 bk.2
    have c3 := C (eP n d e i) k bi.1 bi.2 (by omega) gk
    have c4 := C (eP n d e i) (eP n d e k) bi.1 bi.2 bk.1 bk.2
    rw [ik] at c2 c4
    rw [ii] at c3 c4
    omega
end
end Go.Proofs.YtopenojociafaaaDoor
