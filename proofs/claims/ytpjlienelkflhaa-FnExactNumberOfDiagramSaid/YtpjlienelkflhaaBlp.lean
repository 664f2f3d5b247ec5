/- Plain mathematics: a text that is read as a diagram is that diagram's text. -/
import Derived.Test.YtpjlienelkflhaaDiaB
import Derived.Test.YtpjlienelkflhaaOpl
namespace Go.Proofs.Ytpjlienelkflhaa
open Go.RowKit
set_option linter.unusedVariables false
theorem pst_two (n : Int) (l : List UInt8) (k : Nat) (ms o : List Int) (h : pst n l (k + 1) = some (ms, o)) : l[k]? = some 40 ∨ l[k]? = some 41 := by
  unfold pst at h
  cases hp : pst n l k with
  | none => rw [hp] at h; simp at h
  | some q =>
    obtain ⟨M', o'⟩ := q
    rw [hp] at h
    simp only at h
    split at h
    · left; assumption
    · split at h
      · right; assumption
      · simp at h
theorem parse_pst (l : List UInt8) (n : Int) (ms : List Int) (h : parse l = some (n, ms)) : pst n l l.length = some (ms, []) ∧ (l.length : Int) = 2 * n ∧ 1 ≤ n ∧ n ≤ 8 := by
  unfold parse at h
  split at h
  · rename_i hb
    split at h
    · rename_i M hp
      simp at h; obtain ⟨e, rfl⟩ := h
      rw [e] at hp hb
      exact ⟨hp, by omega, hb.2.1, hb.2.2⟩
    · simp at h
  · simp at h
theorem pst_some_le (n : Int) (l : List UInt8) (k m : Nat) (hk : k ≤ m) (h : pst n l m ≠ none) : ∃ ms o, pst n l k = some (ms, o) := by
  cases hp : pst n l k with
  | none => exact (h (pst_none_le n l k m hp hk)).elim
  | some q => exact ⟨q.1, q.2, rfl⟩
theorem parse_letters (l : List UInt8) (n : Int) (ms : List Int) (h : parse l = some (n, ms)) (k : Nat) (hk : k < l.length) : l[k]? = some 40 ∨ l[k]? = some 41 := by
  obtain ⟨h1, _⟩ := parse_pst l n ms h
  obtain ⟨M, o, hM⟩ := pst_some_le n l (k + 1) l.length hk (by rw [h1]; simp)
  exact pst_two n l k M o hM
theorem pst_text (n : Int) (l : List UInt8) (h8 : n ≤ 8) (k : Nat) (hk : (k : Int) ≤ 2 * n) (M o : List Int) (h : pst n l k = some (M, o)) :
    ∀ p : Nat, p < k → ((p : Int) ∈ o → l[p]? = some 40) ∧ ((p : Int) ∉ o → l[p]? = some (if (p : Int) < qq n M p then 40 else 41)) := by
  induction k generalizing M o with
  | zero => intro p hp; omega
  | succ k ih =>
    have hI := pst_inv n l h8 (k + 1) hk M o h
    unfold pst at h
    cases hp : pst n l k with
    | none => rw [hp] at h; simp at h
    | some q =>
      obtain ⟨M', o'⟩ := q
      have hI' := pst_inv n l h8 k (by omega) M' o' hp
      have ih' := ih (by omega) M' o' hp
      rw [hp] at h
      simp only at h
      split at h
      · rename_i hc
        simp at h; obtain ⟨rfl, rfl⟩ := h
        intro p hpk
        by_cases e : p = k
        · subst e
          exact ⟨fun _ => hc, fun hn => (hn (by simp)).elim⟩
        · have hm : (p : Int) ∈ o' ++ [(k : Int)] ↔ (p : Int) ∈ o' := by
            rw [List.mem_append, List.mem_singleton]
            constructor
            · rintro (h | h)
              · exact h
              · omega
            · exact .inl
          rw [hm]
          exact ih' p (by omega)
      · split at h
        · rename_i hc
          rcases List.eq_nil_or_concat o' with e | ⟨ys, y, e⟩
          · subst e; simp at h
          · rw [List.concat_eq_append] at e
            subst e
            simp at h; obtain ⟨rfl, rfl⟩ := h
            have yb := hI'.obd y (by simp)
            have hs := List.pairwise_append.1 hI'.srt
            have yno : y ∉ ys := fun x => by have := hs.2.2 y x y (by simp); omega
            have kno : (k : Int) ∉ ys := fun x => by have := hs.2.2 _ x y (by simp); omega
            have hk' : (k : Int) < 2 * n := by omega
            have mj : ∀ i : Int, 0 ≤ i → mate (joinL M' (pl n y) (pl n k)) i = if i = pl n k then pl n y else if i = pl n y then pl n k else mate M' i :=
              fun i h0 => mate_join M' hI'.len h8 y k ⟨yb.1, by omega⟩ ⟨by omega, hk'⟩ i h0
            have inj : ∀ a b : Int, 0 ≤ a → a < 2 * n → 0 ≤ b → b < 2 * n → pl n a = pl n b → a = b := by
              intro a b a0 a2 b0 b2 e
              rw [← pl_pl n a a0 a2, e, pl_pl n b b0 b2]
            intro p hpk
            by_cases e1 : p = k
            · subst e1
              refine ⟨fun x => (kno x).elim, fun _ => ?_⟩
              have : qq n (joinL M' (pl n y) (pl n p)) p = y := by
                unfold qq
                rw [mj _ (pl_lt n p (by omega) hk').1, if_pos rfl, pl_pl n y yb.1 (by omega)]
              rw [this, if_neg (by omega)]; exact hc
            · by_cases e2 : (p : Int) = y
              · refine ⟨fun x => (yno (e2 ▸ x)).elim, fun _ => ?_⟩
                have : qq n (joinL M' (pl n y) (pl n k)) p = k := by
                  unfold qq
                  rw [e2, mj _ (pl_lt n y yb.1 (by omega)).1, if_neg (fun e => by have := inj y k yb.1 (by omega) (by omega) hk' e; omega), if_pos rfl, pl_pl n k (by omega) hk']
                rw [this, if_pos (by omega)]
                exact (ih' p (by omega)).1 (by rw [e2]; simp)
              · have : qq n (joinL M' (pl n y) (pl n k)) p = qq n M' p := by
                  unfold qq
                  rw [mj _ (pl_lt n p (by omega) (by omega)).1, if_neg (fun e => by have := inj p k (by omega) (by omega) (by omega) hk' e; omega), if_neg (fun e => e2 (inj p y (by omega) (by omega) yb.1 (by omega) e))]
                rw [this]
                refine ⟨fun x => (ih' p (by omega)).1 (by simp [x]), fun x => (ih' p (by omega)).2 (fun z => ?_)⟩
                rw [List.mem_append, List.mem_singleton] at z
                rcases z with z | z
                · exact x z
                · exact e2 z
        · simp at h
theorem parse_get (l : List UInt8) (n : Int) (ms : List Int) (h : parse l = some (n, ms)) (k : Nat) (hk : (k : Int) < 2 * n) : l[k]? = some (if (k : Int) < qq n ms k then 40 else 41) := by
  obtain ⟨h1, h2, _, h8⟩ := parse_pst l n ms h
  exact (pst_text n l h8 l.length (by omega) ms [] h1 k (by omega)).2 (by simp)
end Go.Proofs.Ytpjlienelkflhaa
