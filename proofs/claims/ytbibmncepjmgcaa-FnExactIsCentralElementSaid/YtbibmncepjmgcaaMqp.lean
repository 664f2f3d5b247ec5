/- Two sums are the same when they have as many entries and every entry of the one has its factor in the other: plain (for maps.Equal). -/
import Derived.Test.YtbibmncepjmgcaaKe
namespace Go.Proofs.Ytbibmncepjmgcaa
open Go.RowKit Go.Lib
set_option linter.unusedVariables false
theorem sub_back {K : Type} : ∀ (a b : List K), a.Nodup → (∀ x ∈ a, x ∈ b) → b.length ≤ a.length → ∀ x ∈ b, x ∈ a
  | [], b, _, _, hl, x, hx => by
    have : b = [] := List.length_eq_zero_iff.1 (by simpa using hl)
    rw [this] at hx; cases hx
  | y :: a, b, hn, hs, hl, x, hx => by
    obtain ⟨u, v, rfl⟩ := List.append_of_mem (hs y (List.mem_cons_self ..))
    obtain ⟨hy, hn'⟩ := List.nodup_cons.1 hn
    have hs' : ∀ z ∈ a, z ∈ u ++ v := fun z hz => by
      have := hs z (List.mem_cons_of_mem _ hz)
      simp only [List.mem_append, List.mem_cons] at this ⊢
      rcases this with h | h | h
      · exact .inl h
      · subst h; exact absurd hz hy
      · exact .inr h
    have ih := sub_back a (u ++ v) hn' hs' (by simp at hl ⊢; omega)
    simp only [List.mem_append, List.mem_cons] at hx
    rcases hx with h | h | h
    · exact List.mem_cons_of_mem _ (ih x (by simp [h]))
    · subst h; exact List.mem_cons_self ..
    · exact List.mem_cons_of_mem _ (ih x (by simp [h]))
theorem keys_nodup {p : Int} {L : List Tm} (h : GoodT p L) : (L.map kTm).Nodup := by
  induction L with
  | nil => simp
  | cons t L ih =>
    rw [List.map_cons, List.nodup_cons]
    refine ⟨fun hm => ?_, ih (Good.tail h)⟩
    obtain ⟨s, hs, e⟩ := List.mem_map.1 hm
    exact Good.ne linD h s hs e
theorem sums_eq {p : Int} {A B : List Tm} (hA : GoodT p A) (hB : GoodT p B) (hl : A.length = B.length) (h : ∀ t ∈ A, fac trmT (kTm t) B = t.2.2) : A = B := by
  have sub : ∀ d ∈ A.map kTm, d ∈ B.map kTm := fun d hd => by
    obtain ⟨t, ht, rfl⟩ := List.mem_map.1 hd
    have h1 := h t ht
    have h2 := (hA.rng t ht).1
    obtain ⟨s, hs, e, _⟩ := fac_some hB (d := kTm t) (by rw [h1]; have : (1 : Int) ≤ t.2.2 := h2; omega)
    exact List.mem_map.2 ⟨s, hs, e⟩
  have back := sub_back _ _ (keys_nodup hA) sub (by simp [hl])
  refine good_unique linD hA hB (fun d => ?_)
  by_cases hd : d ∈ A.map kTm
  · obtain ⟨t, ht, rfl⟩ := List.mem_map.1 hd
    rw [h t ht]
    exact fac_mem linD hA ht
  · rw [fac_none (ts := A) (fun t ht e => hd (List.mem_map.2 ⟨t, ht, e⟩)), fac_none (ts := B) (fun t ht e => hd (back d (List.mem_map.2 ⟨t, ht, e⟩)))]
end Go.Proofs.Ytbibmncepjmgcaa
