/- Words: what they are, and their values. -/
import Derived.Test.YtbibmncepjmgcaaKp
import Derived.Test.YtbibmncepjmgcaaKa
import Derived.Test.YtbibmncepjmgcaaKc
namespace Go.Proofs.Ytbibmncepjmgcaa
open Go.RowKit
open LoopM
set_option linter.unusedVariables false
/-- A word for the size n. -/
def okW (n : Int) (x : Int) : Bool := decide (0 ≤ x ∧ x ≤ n - 2)
def wordB (n : Int) (xs : List Int) : Bool := decide (2 ≤ n ∧ n ≤ 8 ∧ xs.length ≤ 60) && xs.all (okW n)
theorem one_isD : ∀ n : Nat, n < 9 → 1 ≤ n → isD n (oneL n n) = true := by decide +kernel
theorem cup_isD : ∀ n : Nat, n < 9 → ∀ i : Nat, i < n - 1 → isD n (cupL n i) = true := by decide +kernel
theorem one_bytes : ∀ n : Nat, n < 9 → ∀ x ∈ oneL n n, 0 ≤ x ∧ x ≤ 255 := by decide +kernel
theorem cup_bytes : ∀ n : Nat, n < 9 → ∀ i : Nat, i < n - 1 → ∀ x ∈ cupL n i, 0 ≤ x ∧ x ≤ 255 := by decide +kernel
theorem one_ok (n : Int) (h1 : 1 ≤ n) (h8 : n ≤ 8) : Bytes (oneL n n.toNat) ∧ IsS n (oneL n n.toNat) := by
  obtain ⟨m, rfl⟩ : ∃ m : Nat, n = m := ⟨n.toNat, by omega⟩
  rw [Int.toNat_natCast]
  have hb := one_bytes m (by omega)
  exact ⟨hb, (isD_iff m _ (oneL_len _ _) hb).1 (one_isD m (by omega) (by omega))⟩
theorem cup_ok (n i : Int) (h1 : 2 ≤ n) (h8 : n ≤ 8) (h0 : 0 ≤ i) (hi : i ≤ n - 2) : Bytes (cupL n i) ∧ IsS n (cupL n i) := by
  obtain ⟨m, rfl⟩ : ∃ m : Nat, n = m := ⟨n.toNat, by omega⟩
  obtain ⟨j, rfl⟩ : ∃ j : Nat, i = j := ⟨i.toNat, by omega⟩
  have hb := cup_bytes m (by omega) j (by omega)
  exact ⟨hb, (isD_iff m _ (cupL_len _ _) hb).1 (cup_isD m (by omega) j (by omega))⟩
/-- A product of two diagrams, as a diagram. -/
theorem prodD (n : Int) (ds es : List Int) (hbd : Bytes ds) (hbe : Bytes es) (hd : IsS n ds) (he : IsS n es) : Bytes (prodL n (mate ds) (mate es)) ∧ IsS n (prodL n (mate ds) (mate es)) :=
  ⟨prod_bytes (mt_of hbd hd) (mt_of hbe he) hd.1.1 hd.1.2, prod_isS (mt_of hbd hd) (mt_of hbe he) (nc_of hbd hd) (nc_of hbe he) hd.1.1 hd.1.2⟩
theorem loops_bd (n : Int) (d e : Int → Int) (h1 : 1 ≤ n) (h8 : n ≤ 8) : 0 ≤ loopsP n d e ∧ loopsP n d e ≤ 8 := by
  have := lps_bd e (vD n d) (metA n d e) n.toNat
  unfold loopsP; omega
/-- One generator more below. -/
def stepW (n : Int) (a : List Int × Int) (i : Int) : List Int × Int := (prodL n (mate a.1) (mate (cupL n i)), a.2 + loopsP n (mate a.1) (mate (cupL n i)))
/-- The value of a word, and its loops. -/
def valW (n : Int) (xs : List Int) : List Int × Int := xs.foldl (stepW n) (oneL n n.toNat, 0)
theorem valW_snoc (n : Int) (xs : List Int) (x : Int) : valW n (xs ++ [x]) = stepW n (valW n xs) x := by simp [valW, List.foldl_append]
theorem valW_take (n : Int) (xs : List Int) (k : Nat) (h : k < xs.length) : valW n (xs.take (k + 1)) = stepW n (valW n (xs.take k)) (xs.getD k 0) := by
  rw [← valW_snoc]
  congr 1
  rw [List.take_succ_eq_append_getElem h, List.getD_eq_getElem?_getD, List.getElem?_eq_getElem h]; rfl
theorem foldW_ok (n : Int) (h1 : 1 ≤ n) (h8 : n ≤ 8) (xs : List Int) : ∀ (a : List Int × Int) (c : Int), a.1.length = 16 → Bytes a.1 → IsS n a.1 → 0 ≤ a.2 → a.2 ≤ c → (∀ x ∈ xs, 0 ≤ x ∧ x ≤ n - 2) →
    (xs.foldl (stepW n) a).1.length = 16 ∧ Bytes (xs.foldl (stepW n) a).1 ∧ IsS n (xs.foldl (stepW n) a).1 ∧ 0 ≤ (xs.foldl (stepW n) a).2 ∧ (xs.foldl (stepW n) a).2 ≤ c + 8 * xs.length := by
  induction xs with
  | nil => intro a c x1 x2 x3 x4 x5 _; exact ⟨x1, x2, x3, x4, by simp; exact x5⟩
  | cons x xs ih =>
    intro a c x1 x2 x3 x4 x5 h
    have hx := h x (by simp)
    have g := cup_ok n x (by omega) h8 hx.1 hx.2
    have l := loops_bd n (mate a.1) (mate (cupL n x)) h1 h8
    have P := prodD n _ _ x2 g.1 x3 g.2
    have := ih (stepW n a x) (c + 8) (prodL_len _ _ _) P.1 P.2 (show 0 ≤ a.2 + _ by omega) (show a.2 + _ ≤ _ by omega) (fun y hy => h y (by simp [hy]))
    refine ⟨this.1, this.2.1, this.2.2.1, this.2.2.2.1, ?_⟩
    have := this.2.2.2.2
    simp only [List.foldl_cons, List.length_cons]
    omega
theorem valW_ok (n : Int) (xs : List Int) (h1 : 1 ≤ n) (h8 : n ≤ 8) (h : ∀ x ∈ xs, 0 ≤ x ∧ x ≤ n - 2) : (valW n xs).1.length = 16 ∧ Bytes (valW n xs).1 ∧ IsS n (valW n xs).1 ∧ 0 ≤ (valW n xs).2 ∧ (valW n xs).2 ≤ 8 * xs.length := by
  have := foldW_ok n h1 h8 xs (oneL n n.toNat, 0) 0 (oneL_len _ _) (one_ok n h1 h8).1 (one_ok n h1 h8).2 (by simp) (by simp) h
  refine ⟨this.1, this.2.1, this.2.2.1, this.2.2.2.1, ?_⟩
  have := this.2.2.2.2
  unfold valW; omega
theorem all_okW {n : Int} {xs : List Int} (h : xs.all (okW n) = true) : ∀ x ∈ xs, 0 ≤ x ∧ x ≤ n - 2 := by
  intro x hx
  have := List.all_eq_true.1 h x hx
  simpa [okW] using this
end Go.Proofs.Ytbibmncepjmgcaa
