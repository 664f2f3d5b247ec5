/- The partial closure of a diagram: the program. (Written by genpci.py.) -/
import Derived.Test.YtpmcngmphkegnaaPcm
namespace Go.Proofs.Ytpmcngmphkegnaa
open Go.RowKit Go.Lib
set_option linter.unusedVariables false
set_option linter.unusedSimpArgs false
/-- The program's mates: lines that stay, joined one after the other. -/
def jnC (n : Int) (ms : List Int) : Nat → List Int
  | 0 => zeros
  | k + 1 => if (k : Int) ≠ n - 1 ∧ mate ms k ≠ n - 1 ∧ mate ms k ≠ 2 * n - 1 then joinL (jnC n ms k) (lfC n k) (lfC n (mate ms k)) else jnC n ms k
theorem jnC_len (n : Int) (ms : List Int) (k : Nat) : (jnC n ms k).length = 16 := by
  induction k with
  | zero => rfl
  | succ k ih => rw [jnC]; split <;> simp [joinL_len, ih]
def jnF (n : Int) (ms : List Int) : List Int := if mate ms (n - 1) = 2 * n - 1 then jnC n ms (2 * n - 1).toNat else joinL (jnC n ms (2 * n - 1).toNat) (lfC n (mate ms (n - 1))) (lfC n (mate ms (2 * n - 1)))
theorem jnF_len (n : Int) (ms : List Int) : (jnF n ms).length = 16 := by unfold jnF; split <;> simp [joinL_len, jnC_len]
theorem lf_inj {n x y : Int} (h2 : 2 ≤ n) (hx : alC n x) (hy : alC n y) (h : lfC n x = lfC n y) : x = y := by
  have a := (lf_em h2 hx).2.2
  have b := (lf_em h2 hy).2.2
  rw [← a, ← b, h]
theorem jnC_get {n : Int} {ms : List Int} (h2 : 2 ≤ n) (h8 : n ≤ 8) (M : Mt n (mate ms)) (k : Nat) (hk : (k : Int) ≤ 2 * n - 1) :
    (∀ i, alC n i → (jnC n ms k).getD (lfC n i).toNat 0 = if alC n (mate ms i) ∧ (i < k ∨ mate ms i < k) then lfC n (mate ms i) else 0) ∧ ∀ j : Nat, 2 * (n - 1) ≤ (j : Int) → (jnC n ms k).getD j 0 = 0 := by
  induction k with
  | zero =>
    refine ⟨fun i hi => ?_, fun j hj => zeros_get j⟩
    rw [if_neg]
    · exact zeros_get _
    · rintro ⟨a, b | b⟩
      · have := hi.1; omega
      · have := a.1; omega
  | succ k ih =>
    obtain ⟨ih1, ih2⟩ := ih (by omega)
    have hl := jnC_len n ms k
    by_cases c : (k : Int) ≠ n - 1 ∧ mate ms k ≠ n - 1 ∧ mate ms k ≠ 2 * n - 1
    · have ak : alC n k := ⟨by omega, by omega, c.1, by omega⟩
      have bk := M.lt k (by omega) (by omega)
      have amk : alC n (mate ms k) := ⟨bk.1, bk.2, c.2.1, c.2.2⟩
      have e1 := lf_em h2 ak
      have e2 := lf_em h2 amk
      have hinv := M.inv k (by omega) (by omega)
      rw [jnC, if_pos c]
      unfold joinL
      refine ⟨fun i hi => ?_, fun j hj => ?_⟩
      · have e3 := lf_em h2 hi
        rw [set_get _ (by rw [List.length_set, hl]) _ (by omega), set_get _ hl _ (by omega)]
        by_cases d1 : i = mate ms k
        · subst d1
          rw [if_pos rfl, hinv, if_pos ⟨ak, .inr (by omega)⟩]
        · rw [if_neg (fun e => d1 (lf_inj h2 hi amk (by omega)))]
          by_cases d2 : i = k
          · rw [d2, if_pos rfl, if_pos ⟨amk, .inl (by omega)⟩]
          · rw [if_neg (fun e => d2 (lf_inj h2 hi ak (by omega))), ih1 i hi]
            have hmi : mate ms i ≠ k := fun e => d1 (by rw [← e, M.inv i hi.1 hi.2.1])
            by_cases q : alC n (mate ms i) ∧ (i < k ∨ mate ms i < k)
            · rw [if_pos q, if_pos ⟨q.1, by have := q.2; omega⟩]
            · rw [if_neg q, if_neg (fun r => q ⟨r.1, by have := r.2; omega⟩)]
      · rw [set_get _ (by rw [List.length_set, hl]) _ (by omega), set_get _ hl _ (by omega), if_neg (by omega), if_neg (by omega), ih2 j hj]
    · rw [jnC, if_neg c]
      refine ⟨fun i hi => ?_, ih2⟩
      rw [ih1 i hi]
      have hno : i = k → ¬ alC n (mate ms i) := fun e r => by subst e; exact c ⟨hi.2.2.1, r.2.2.1, r.2.2.2⟩
      have hno2 : mate ms i = k → ¬ alC n (mate ms i) := fun e r => by
        have hmi : mate ms k = i := by rw [← e, M.inv i hi.1 hi.2.1]
        rw [e] at r
        exact c ⟨r.2.2.1, by rw [hmi]; exact hi.2.2.1, by rw [hmi]; exact hi.2.2.2⟩
      by_cases q : alC n (mate ms i) ∧ (i < k ∨ mate ms i < k)
      · rw [if_pos q, if_pos ⟨q.1, by have := q.2; omega⟩]
      · rw [if_neg q, if_neg (fun r => q ⟨r.1, by
          have h3 : i ≠ k := fun e => hno e r.1
          have h4 : mate ms i ≠ k := fun e => hno2 e r.1
          have := r.2
          omega⟩)]
theorem jnF_cl {n : Int} {ms : List Int} (h2 : 2 ≤ n) (h : VD (n, ms)) : jnF n ms = clL n ms := by
  have hIs := (isD_iff n ms h.2.1 h.2.2).1 h.1
  have hn : 1 ≤ n ∧ n ≤ 8 := hIs.1
  have M : Mt n (mate ms) := mt_of h.2.2 hIs
  obtain ⟨g1, g2⟩ := jnC_get h2 hn.2 M (2 * n - 1).toNat (by omega)
  have hl := jnC_len n ms (2 * n - 1).toNat
  refine list_ext16 (jnF_len n ms) (clL_len n ms) (fun j => ?_)
  rw [cl_get hn.2]
  by_cases hj : (j : Int) < 2 * (n - 1)
  · rw [if_pos hj]
    obtain ⟨ea, el⟩ := em_al h2 (show (0 : Int) ≤ (j : Int) by omega) hj
    obtain ⟨i, hi⟩ : ∃ i, emC n j = i := ⟨_, rfl⟩
    rw [hi] at ea el ⊢
    have hij : j = (lfC n i).toNat := by omega
    have gi := g1 i ea
    rw [← hij] at gi
    have hlt : i < ((2 * n - 1).toNat : Int) := by have := ea.2.1; have := ea.2.2.2; omega
    unfold jnF djC
    by_cases c : mate ms (n - 1) = 2 * n - 1
    · rw [if_pos c, if_pos c, gi, if_pos ⟨stay_al h2 M ea (.inl c), .inl hlt⟩]
    · obtain ⟨na, nb, nn⟩ := ends_al h2 M c
      have f1 := lf_em h2 na
      have f2 := lf_em h2 nb
      rw [if_neg c, if_neg c]
      unfold joinL
      rw [set_get _ (by rw [List.length_set, hl]) _ (by omega), set_get _ hl _ (by omega)]
      by_cases d1 : i = mate ms (n - 1)
      · rw [if_pos d1, if_neg (fun e => nn (by rw [← d1]; exact lf_inj h2 ea nb (by omega))), if_pos (by rw [hij, d1])]
      · rw [if_neg d1]
        by_cases d2 : i = mate ms (2 * n - 1)
        · rw [if_pos d2, if_pos (by rw [hij, d2])]
        · rw [if_neg d2, if_neg (fun e => d2 (lf_inj h2 ea nb (by omega))), if_neg (fun e => d1 (lf_inj h2 ea na (by omega))), gi, if_pos ⟨stay_al h2 M ea (.inr ⟨d1, d2⟩), .inl hlt⟩]
  · rw [if_neg hj]
    unfold jnF
    split
    · exact g2 j (by omega)
    · rename_i c
      obtain ⟨na, nb, nn⟩ := ends_al h2 M c
      have f1 := lf_em h2 na
      have f2 := lf_em h2 nb
      unfold joinL
      rw [set_get _ (by rw [List.length_set, hl]) _ (by omega), set_get _ hl _ (by omega), if_neg (by omega), if_neg (by omega)]
      exact g2 j (by omega)
set_option maxRecDepth 100000 in
theorem clC_enters (args : Array Value) (w : World) : (callFunc 112 args).run Try.prog w = .ok (.enter 112 args) w := by kernel_rfl
set_option maxRecDepth 100000 in
theorem clC_any (n x : Int) (pn : Nat) (w : World) (ho : Own w pn #[.int .i64 n] 2) (h0 : 0 ≤ x) (h1 : x < 16) :
    Calls Try.prog 112 (#[.int .i64 x] ++ #[.pointer (some ⟨pn, 0, none⟩)]) w fun e w' => e = .returned (.int .i64 (lfC n x)) ∧ w' = w := by
  have k0 : w.cell? ⟨pn, 0, none⟩ = some (.int .i64 n) := ho.cell 0
  show Calls Try.prog _ #[.int .i64 x, .pointer (some ⟨pn, 0, none⟩)] w _
  unfold lfC
  go_enter Try.func112, Try.ntmps112
  by_cases h : x < n
  · rw [if_pos h]
    go_wp2
    go_ret
    exact ⟨rfl, rfl⟩
  · rw [if_neg h]
    go_wp2
    go_ret
    exact ⟨rfl, rfl⟩
end Go.Proofs.Ytpmcngmphkegnaa
