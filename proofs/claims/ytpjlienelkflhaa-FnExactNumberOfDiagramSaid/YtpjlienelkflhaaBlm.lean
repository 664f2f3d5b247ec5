/- Plain mathematics: the lines of a diagram that are open to the left, as the program and the model find them. -/
import Derived.Test.YtpjlienelkflhaaDiaA
namespace Go.Proofs.Ytpjlienelkflhaa
open Go.RowKit
set_option linter.unusedVariables false
/-- The places at which nothing is open, of the first k. -/
def starts (n : Int) (ms : List Int) (k : Nat) : List Nat := (List.range k).filter (fun s => (opens n ms s).isEmpty)
theorem starts_succ (n : Int) (ms : List Int) (k : Nat) : starts n ms (k + 1) = if opens n ms k = [] then starts n ms k ++ [k] else starts n ms k := by
  unfold starts
  rw [List.range_succ, List.filter_append]
  by_cases h : opens n ms k = []
  · rw [if_pos h, List.filter_cons_of_pos (by simp [h]), List.filter_nil]
  · rw [if_neg h, List.filter_cons_of_neg (by simp [h]), List.filter_nil, List.append_nil]
theorem mem_starts {n : Int} {ms : List Int} {k s : Nat} : s ∈ starts n ms k ↔ s < k ∧ opens n ms s = [] := by
  unfold starts; simp
/-- Nothing is open behind the last place. -/
theorem opens_end {n : Int} {ms : List Int} (h : Net n ms) : opens n ms (2 * n).toNat = [] := by
  have hn := h.bd
  unfold opens
  rw [List.map_eq_nil_iff, List.filter_eq_nil_iff]
  intro p hp
  rw [List.mem_range] at hp
  have := h.lt p (by omega) (by omega)
  simp; omega
/-- What a letter does to the number of open brackets. -/
def stp (c : Int) : Int := if c = 40 ∨ c = 91 then 1 else if c = 41 ∨ c = 93 then -1 else 0
/-- The program's parts behind k letters: pairs of the first place and that behind the last, the first place of the part under way, and how many are open. -/
def cutP (L : List Int) : Nat → List (Nat × Nat) × Nat × Int
  | 0 => ([], 0, 0)
  | k + 1 =>
    if (cutP L k).2.2 + stp (L.getD k 0) = 0 then ((cutP L k).1 ++ [((cutP L k).2.1, k + 1)], k + 1, 0)
    else ((cutP L k).1, (cutP L k).2.1, (cutP L k).2.2 + stp (L.getD k 0))
theorem cutP_bd (L : List Int) (k : Nat) : (cutP L k).1.length ≤ k ∧ (cutP L k).2.1 ≤ k ∧ -(k : Int) ≤ (cutP L k).2.2 ∧ (cutP L k).2.2 ≤ k ∧ ∀ q ∈ (cutP L k).1, q.1 < q.2 ∧ q.2 ≤ k := by
  induction k with
  | zero => simp [cutP]
  | succ k ih =>
    obtain ⟨h1, h2, h3, h4, h5⟩ := ih
    have hs : -1 ≤ stp (L.getD k 0) ∧ stp (L.getD k 0) ≤ 1 := by unfold stp; split <;> (try split) <;> omega
    rw [cutP]
    split
    · refine ⟨by simp; omega, by simp, by simp <;> omega, by simp <;> omega, ?_⟩
      intro q hq
      simp only [List.mem_append, List.mem_singleton] at hq
      rcases hq with hq | rfl
      · have := h5 q hq; omega
      · exact ⟨by show _ < _ + 1; omega, Nat.le_refl _⟩
    · exact ⟨by simp only; omega, by simp only; omega, by simp only; omega, by simp only; omega, fun q hq => by have := h5 q hq; omega⟩
/-- The part of a line that is open to the left. -/
def prt (n : Int) (ms : List Int) (s : Nat) : Nat × Nat := (s, (qq n ms s).toNat + 1)
/-- The letters are brackets as the lines say. -/
def Lett (n : Int) (ms : List Int) (L : List Int) : Prop := ∀ k : Nat, (k : Int) < 2 * n → stp (L.getD k 0) = if (k : Int) < qq n ms k then 1 else -1
theorem cut_inv {n : Int} {ms : List Int} (h : Net n ms) (L : List Int) (hL : Lett n ms L) (k : Nat) (hk : (k : Int) ≤ 2 * n) :
    (cutP L k).2.2 = ((opens n ms k).length : Int) ∧ ∃ ss, (cutP L k).1 = ss.map (prt n ms) ∧ (opens n ms k = [] → starts n ms k = ss ∧ (cutP L k).2.1 = k) ∧
      (opens n ms k ≠ [] → starts n ms k = ss ++ [(cutP L k).2.1] ∧ (opens n ms k).head? = some ((cutP L k).2.1 : Int)) := by
  induction k with
  | zero => exact ⟨rfl, [], rfl, fun _ => ⟨rfl, rfl⟩, fun e => (e rfl).elim⟩
  | succ k ih =>
    obtain ⟨hd, ss, h1, h2, h3⟩ := ih (by omega)
    have hk' : (k : Int) < 2 * n := by omega
    have q0 := h.lt k (by omega) hk'
    have qi := h.inv k (by omega) hk'
    have hl := hL k hk'
    rw [cutP]
    by_cases hq : (k : Int) < qq n ms k
    · rw [if_pos hq] at hl
      have hu := opens_up h k hk' hq
      rw [if_neg (by omega)]
      refine ⟨by rw [hu, List.length_append]; show (cutP L k).2.2 + stp (L.getD k 0) = _; rw [hd, hl]; rfl, ss, h1, fun e => by rw [hu] at e; simp at e, fun _ => ?_⟩
      rw [starts_succ]
      by_cases h0 : opens n ms k = []
      · rw [if_pos h0, hu, h0]
        obtain ⟨e1, e2⟩ := h2 h0
        simp only
        rw [e1, e2]; exact ⟨rfl, rfl⟩
      · rw [if_neg h0, hu]
        obtain ⟨e1, e2⟩ := h3 h0
        refine ⟨e1, ?_⟩
        rw [List.head?_append, e2]; rfl
    · have hq' : qq n ms k < k := by omega
      rw [if_neg hq] at hl
      have hdn := opens_down h k hk' hq'
      have h0 : opens n ms k ≠ [] := by rw [hdn]; simp
      obtain ⟨e1, e2⟩ := h3 h0
      have hlen : ((opens n ms k).length : Int) = (opens n ms (k + 1)).length + 1 := by rw [hdn, List.length_append]; simp
      rw [starts_succ, if_neg h0]
      by_cases hz : opens n ms (k + 1) = []
      · have z0 : ((opens n ms (k + 1)).length : Int) = 0 := by rw [hz]; rfl
        rw [if_pos (by omega)]
        refine ⟨by rw [hz]; rfl, ss ++ [(cutP L k).2.1], ?_, fun _ => ⟨e1, rfl⟩, fun e => (e hz).elim⟩
        rw [h1, List.map_append]
        rw [hdn, hz] at e2
        simp at e2
        have : prt n ms (cutP L k).2.1 = ((cutP L k).2.1, k + 1) := by
          unfold prt
          rw [← e2, qi]; rfl
        simp [this]
      · have z0 : ((opens n ms (k + 1)).length : Int) ≠ 0 := by
          intro e; exact hz (List.length_eq_zero_iff.1 (by omega))
        rw [if_neg (by omega)]
        refine ⟨by simp only; omega, ss, h1, fun e => (hz e).elim, fun _ => ⟨e1, ?_⟩⟩
        rw [hdn, List.head?_append] at e2
        cases ho : opens n ms (k + 1) with
        | nil => exact (hz ho).elim
        | cons a t => rw [ho] at e2; simpa using e2
/-- The parts of a diagram's letters. -/
theorem cut_all {n : Int} {ms : List Int} (h : Net n ms) (L : List Int) (hL : Lett n ms L) : (cutP L (2 * n).toNat).1 = (starts n ms (2 * n).toNat).map (prt n ms) := by
  have hn := h.bd
  obtain ⟨_, ss, h1, h2, _⟩ := cut_inv h L hL (2 * n).toNat (by omega)
  rw [h1, (h2 (opens_end h)).1]
/-- At a place at which nothing is open a line starts. -/
theorem start_up {n : Int} {ms : List Int} (h : Net n ms) (s : Nat) (hs : (s : Int) < 2 * n) (ho : opens n ms s = []) : (s : Int) < qq n ms s := by
  have q0 := h.lt s (by omega) hs
  by_cases hq : (s : Int) < qq n ms s
  · exact hq
  · rw [opens_down h s hs (by omega)] at ho
    simp at ho
/-- The model's marks of points behind k places. -/
def opB (n : Int) (ms : List Int) : Nat → List Bool
  | 0 => List.replicate 16 false
  | k + 1 => if opens n ms k = [] then ((opB n ms k).set (pl n k).toNat true).set (mate ms (pl n k)).toNat true else opB n ms k
theorem opB_len (n : Int) (ms : List Int) (k : Nat) : (opB n ms k).length = 16 := by
  induction k with
  | zero => rfl
  | succ k ih => rw [opB]; split <;> simp [ih]
theorem set_true (l : List Bool) (a i : Nat) (hi : i < l.length) : (l.set a true).getD i false = true ↔ i = a ∨ l.getD i false = true := by
  rw [List.getD_eq_getElem?_getD, List.getD_eq_getElem?_getD, List.getElem?_set]
  by_cases e : a = i
  · subst e; simp [hi]
  · rw [if_neg e]
    constructor
    · exact .inr
    · rintro (h | h)
      · exact (e h.symm).elim
      · exact h
theorem opB_get (n : Int) (ms : List Int) (k i : Nat) (hi : i < 16) : (opB n ms k).getD i false = true ↔ ∃ s ∈ starts n ms k, i = (pl n s).toNat ∨ i = (mate ms (pl n s)).toNat := by
  induction k with
  | zero =>
    unfold opB starts
    rw [List.getD_eq_getElem?_getD, List.getElem?_replicate, if_pos hi]
    simp
  | succ k ih =>
    rw [opB, starts_succ]
    split
    · rw [set_true _ _ _ (by rw [List.length_set, opB_len]; exact hi), set_true _ _ _ (by rw [opB_len]; exact hi), ih]
      constructor
      · rintro (h | h | ⟨s, h, h'⟩)
        · exact ⟨k, by simp, .inr h⟩
        · exact ⟨k, by simp, .inl h⟩
        · exact ⟨s, by simp [h], h'⟩
      · rintro ⟨s, h, h'⟩
        simp only [List.mem_append, List.mem_singleton] at h
        rcases h with h | rfl
        · exact .inr (.inr ⟨s, h, h'⟩)
        · rcases h' with h' | h'
          · exact .inr (.inl h')
          · exact .inl h'
    · exact ih
end Go.Proofs.Ytpjlienelkflhaa
