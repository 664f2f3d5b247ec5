/- The program's theta numbers. -/
import Derived.Test.YtmcffhafonemeaaAdmL
namespace Go.Proofs.Ytmcffhafonemeaa
open Go.RowKit
set_option linter.unusedVariables false
/-- The product of the first k numbers, 1 for none. -/
def gz (p c k : Int) : Int := gpr p c k.toNat
theorem gz_low {p c k : Int} (h : k ≤ 0) : gz p c k = 1 := by unfold gz; rw [show k.toNat = 0 by omega]; rfl
theorem gz_range (p c k : Int) (hp : 2 ≤ p) : 0 ≤ gz p c k ∧ gz p c k < p := gpr_range p c hp _
theorem prodI_int (base : Nat) (B : ChB) (p c : Int) (hp : 2 ≤ p) (hp2 : p ≤ 97) (hc0 : 0 ≤ c) (hc1 : c < p) (k : Int) (hk : k ≤ 1000) (j0 : Nat) (hj : 1 ≤ j0) (hj2 : j0 ≤ 1100) (w : World) (hT : ChT w base B p c (j0 + 1)) (hbase : base ≤ w.heap.size) :
    Calls Try.prog 47 #[.int .i64 k, .pointer (some ⟨B.pb, 0, none⟩), .pointer (some ⟨B.nb, 0, none⟩), .pointer (some ⟨B.bp, 0, none⟩)] w fun e w' => e = .returned (.int .i64 (gz p c k)) ∧ ChS base B p c j0 w w' := by
  by_cases h : k ≤ 0
  · rw [gz_low h]
    exact (prodI_low B k h w).mono fun e w' ⟨h1, h2⟩ => ⟨h1, by subst h2; exact ⟨⟨j0, Nat.le_refl _, hj2, hT⟩, Below.refl _ _⟩⟩
  · obtain ⟨K, rfl⟩ : ∃ K : Nat, k = K := ⟨k.toNat, by omega⟩
    unfold gz
    rw [Int.toNat_natCast]
    exact prodI_any base B p c hp hp2 hc0 hc1 K (by omega) j0 hj hj2 w hT hbase
/-- Factors one behind the other. -/
def fold (p t : Int) : List Int → Int
  | [] => t
  | g :: l => fold p (t * g % p) l
theorem fold_append (p : Int) : ∀ (l : List Int) (t g : Int), fold p t (l ++ [g]) = fold p t l * g % p
  | [], t, g => rfl
  | x :: l, t, g => by rw [List.cons_append, fold, fold, fold_append p l]
theorem fold_step (p t : Int) (f : Int → Int) (xs : List Int) (k : Nat) (h : k < xs.length) : fold p t ((xs.take (k + 1)).map f) = fold p t ((xs.take k).map f) * f (xs.getD k 0) % p := by
  rw [List.take_succ_eq_append_getElem h, List.map_append, List.map_cons, List.map_nil, fold_append, List.getD_eq_getElem?_getD, List.getElem?_eq_getElem h]; rfl
theorem fold_range (p t : Int) (hp : 2 ≤ p) (h0 : 0 ≤ t) (h1 : t < p) : ∀ l : List Int, 0 ≤ fold p t l ∧ fold p t l < p := by
  intro l
  induction l generalizing t with
  | nil => exact ⟨h0, h1⟩
  | cons g l ih => exact ih (t * g % p) (Int.emod_nonneg _ (by omega)) (Int.emod_lt_of_pos _ (by omega))
end Go.Proofs.Ytmcffhafonemeaa
