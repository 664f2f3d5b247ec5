/- The program's products of Chebyshev numbers. -/
import Derived.Test.YtmcffhafonemeaaCheR
namespace Go.Proofs.Ytmcffhafonemeaa
open Go.RowKit
set_option linter.unusedVariables false
set_option maxRecDepth 100000 in
theorem prodI_low (B : ChB) (k : Int) (hk : k ≤ 0) (w : World) :
    Calls Try.prog 47 #[.int .i64 k, .pointer (some ⟨B.pb, 0, none⟩), .pointer (some ⟨B.nb, 0, none⟩), .pointer (some ⟨B.bp, 0, none⟩)] w fun e w' => e = .returned (.int .i64 1) ∧ w' = w := by
  go_enter Try.func47, Try.ntmps47
  go_wp2
  go_ret
  exact ⟨rfl, rfl⟩
/-- The table still holds, with as many numbers or more. -/
def ChS (base : Nat) (B : ChB) (p c : Int) (j0 : Nat) (w w' : World) : Prop := (∃ j, j0 ≤ j ∧ j ≤ 1100 ∧ ChT w' base B p c (j + 1)) ∧ Below base w w'
theorem ChS.trans {base : Nat} {B : ChB} {p c : Int} {j0 j1 : Nat} {u v w : World} (h : Below base u v) (hj : j0 ≤ j1) (k : ChS base B p c j1 v w) : ChS base B p c j0 u w := by
  obtain ⟨⟨j, h1, h2, h3⟩, h4⟩ := k
  exact ⟨⟨j, by omega, h2, h3⟩, h.trans h4⟩
set_option maxRecDepth 100000 in
theorem prodI_any (base : Nat) (B : ChB) (p c : Int) (hp : 2 ≤ p) (hp2 : p ≤ 97) (hc0 : 0 ≤ c) (hc1 : c < p) : ∀ (k : Nat) (hk : k ≤ 1000) (j0 : Nat) (hj : 1 ≤ j0) (hj2 : j0 ≤ 1100) (w : World) (hT : ChT w base B p c (j0 + 1)) (hbase : base ≤ w.heap.size),
    Calls Try.prog 47 #[.int .i64 k, .pointer (some ⟨B.pb, 0, none⟩), .pointer (some ⟨B.nb, 0, none⟩), .pointer (some ⟨B.bp, 0, none⟩)] w fun e w' => e = .returned (.int .i64 (gpr p c k)) ∧ ChS base B p c j0 w w' := by
  intro k
  induction k with
  | zero =>
    intro hk j0 hj hj2 w hT hbase
    exact (prodI_low B 0 (Int.le_refl _) w).mono fun e w' ⟨h1, h2⟩ => ⟨h1, by subst h2; exact ⟨⟨j0, Nat.le_refl _, hj2, hT⟩, Below.refl _ _⟩⟩
  | succ k ih =>
    intro hk j0 hj hj2 w hT hbase
    have ih' := Lib.hid (fun (j1 : Nat) (h0 : j0 ≤ j1) (h1 : j1 ≤ 1100) (w1 : World) (hB : Below base w w1) (hT : ChT w1 base B p c (j1 + 1)) => ih (by omega) j1 (by omega) h1 w1 hT (by have := hB.size; omega))
    have hn' := Lib.hid (fun (j1 : Nat) (h0 : j0 ≤ j1) (h1 : j1 ≤ 1100) (w1 : World) (hB : Below base w w1) (hT : ChT w1 base B p c (j1 + 1)) => (show Calls Try.prog 45 #[.int .i64 ((k : Int) + 1), .pointer (some ⟨B.bt, 0, none⟩), .pointer (some ⟨B.bp, 0, none⟩), .pointer (some ⟨B.bc, 0, none⟩)] w1 fun e w' => e = .returned (.int .i64 (cheb p c (k + 1))) ∧ ChS base B p c j1 w1 w' from (numI_any base B p c j1 (k + 1) hp hp2 hc0 hc1 (by omega) h1 (by omega) w1 hT (by have := hB.size; omega)).mono fun e w' ⟨h1, h2, h3⟩ => ⟨h1, h2, h3⟩))
    clear ih
    have g1 := gpr_range p c hp k
    have g2 := cheb_range p c hp (k + 1)
    have hg : Hid (gpr p c (k + 1) = gpr p c k * cheb p c (k + 1) % p) := Lib.hid rfl
    rw [hg.out]
    have m1 := bnd_mul p (gpr p c k) (cheb p c (k + 1)) 0 hp hp2 g1.1 g1.2 g2.1 g2.2
    have e1 : IntKind.i64.wrap ((k : Int) + 1 - 1) = k := by rw [IntWalk.i64_in _ (by omega)]; omega
    have e4 : IntKind.i64.wrap (k : Int) = k := IntWalk.i64_in _ (by omega)
    generalize hx1 : gpr p c k = x1 at *
    generalize hx2 : cheb p c (k + 1) = x2 at *
    have HX1 := Lib.hid hx1
    have HX2 := Lib.hid hx2
    clear hx1 hx2 hg
    have e2 : IntKind.i64.wrap (x1 * x2) = x1 * x2 := IntWalk.i64_in _ (by omega)
    have e3 : (x1 * x2).tmod p = x1 * x2 % p := Int.tmod_eq_emod_of_nonneg (by omega)
    have e0 : (p == 0) = false := by simp; omega
    have e5 : IntKind.i64.wrap (x1 * x2 % p) = x1 * x2 % p := by
      have := Int.emod_nonneg (x1 * x2) (show p ≠ 0 by omega)
      have := Int.emod_lt_of_pos (x1 * x2) (show 0 < p by omega)
      exact IntWalk.i64_in _ (by omega)
    generalize hx3 : x1 * x2 = x3 at *
    go_enter Try.func47, Try.ntmps47
    go_wp2
    refine wp_region_on (ChS base B p c j0 w) [0, 1, 2, 4, 5, 8] [3, 6, 7, 9] 10 (by kernel_rfl) (by kernel_rfl) ⟨⟨j0, Nat.le_refl _, hj2, hT.drewN 1⟩, Below.drewN (Below.refl _ _) 1⟩ ?_
    simp only [List.map_cons, List.map_nil, opN_zero, opN_succ, List.drop_succ_cons, List.drop_zero]
    clear hT
    (apply wpOn_step; · (intro w2 hS K hK; obtain ⟨⟨j, j1, j2, hT⟩, hB⟩ := hS; have c1 := hT.of.cell 0; unfold pfun at c1; clear hT hB; go_simp; exact hK))
    (apply wpOn_step; · (intro w2 hS K hK; clear hS; go_simp; exact hK))
    (apply wpOn_step; · (intro w2 hS K hK; clear hS; go_simp; exact hK))
    (apply wpOn_step; · (intro w2 hS K hK; obtain ⟨⟨j, j1, j2, hT⟩, hB⟩ := hS; have c1 := hT.og.cell 0; unfold nfun at c1; clear hT hB; go_simp; exact hK))
    (apply wpOn_step; · (intro w2 hS K hK; clear hS; go_simp; exact hK))
    (apply wpOn_step; · (intro w2 hS K hK; obtain ⟨⟨j, j1, j2, hT⟩, hB⟩ := hS; have c1 := hT.op.cell 0; clear hT hB; go_simp; exact hK))
    refine wpOn_nil ?_
    rintro w2 ⟨⟨j, j1, j2, hT⟩, hB⟩
    refine wpMid_step (fun K hK => ?_)
    go_wp2_with (first
      | (go_at_call 47; ((with_reducible refine (ih'.out j j1 j2 _ hB hT).mono ?_); rintro e w3 ⟨rfl, hS3⟩)))
    refine hK _ _ (hS3.trans hB j1) ?_
    clear hK K
    obtain ⟨⟨i, i1, i2, hT3⟩, hB3⟩ := hS3.trans hB j1
    clear hS3 hB hT
    refine wpMid_step (fun K hK => ?_)
    go_wp2_with (first
      | (go_at_call 45; ((with_reducible refine (hn'.out i i1 i2 _ hB3 hT3).mono ?_); rintro e w4 ⟨rfl, hS4⟩)))
    have hS5 := Lib.hid (hS4.trans hB3 i1)
    clear hS4 hB3 hT3
    refine hK _ _ hS5.out ?_
    clear hK K
    refine wpMid_step (fun K hK => ?_)
    go_wp2
    refine hK _ _ hS5.out ?_
    clear hK K
    refine wpMid_step (fun K hK => ?_)
    go_wp2
    refine hK _ _ hS5.out ?_
    clear hK K
    refine wpMid_nil ?_
    go_wp2
    go_ret
    exact ⟨rfl, hS5.out⟩
end Go.Proofs.Ytmcffhafonemeaa
