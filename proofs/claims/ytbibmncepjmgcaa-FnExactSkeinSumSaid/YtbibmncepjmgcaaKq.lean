/- A scope in which the run jumps to any of its labels: what holds at each jump, with a number that every pass lowers. Rows of yes-or-nos. What a walk with jumps leaves as it was; arrays of eight yes-or-nos. Contract of the program's way along a line of a product. Contracts of the program's products of diagrams. -/
import Derived.Test.YtbibmncepjmgcaaKa
import Derived.ScopeJumps
import Derived.WalkMore
import Derived.Test.YtbibmncepjmgcaaKp
import Derived.Deep.LoopGhost
import Derived.Deep.QuietTactic
import Derived.BigQuiet
import Derived.RegionTactic
namespace Go
/-- As Q; by a goto to a label l: J l. -/
def Exit.jumpG (J : Nat → Act → World → Prop) (Q : Exit → Act → World → Prop) : Exit → Act → World → Prop
  | .goto l, a, w => J l a w
  | e, a, w => Q e a w
section
variable {P : Program} {a : Act} {w : World} {Q : Exit → Act → World → Prop}
theorem Exit.jumpG_ret (J : Nat → Act → World → Prop) : Exit.jumpG J Q .ret a w = Q .ret a w := rfl
theorem Exit.jumpG_goto (J : Nat → Act → World → Prop) (l : Nat) : Exit.jumpG J Q (.goto l) a w = J l a w := rfl
theorem Exit.jumpG_normal (J : Nat → Act → World → Prop) : Exit.jumpG J Q .normal a w = Q .normal a w := rfl
theorem wp_scope_jumpsG {c : Code} (J : Nat → Nat → Act → World → Prop)
    (pass0 : ∀ l n a w, J l n a w → ∀ Jh : Nat → Act → World → Prop, (∀ l' n' a' w', n' < n → J l' n' a' w' → Jh l' a' w') → ∃ X, findLabel c l = some (Code.skip.seq X) ∧ X.wp P (Exit.jumpG Jh Q) a w)
    (first0 : (∀ l n a w, J l n a w → ∀ Jh : Nat → Act → World → Prop, (∀ l' n' a' w', J l' n' a' w' → Jh l' a' w') → ∃ X, findLabel c l = some (Code.skip.seq X) ∧ X.wp P (Exit.jumpG Jh Q) a w) → ∀ Jh : Nat → Act → World → Prop, (∀ l' n' a' w', J l' n' a' w' → Jh l' a' w') → c.wp P (Exit.jumpG Jh Q) a w) : (Code.scope c).wp P Q a w := by
  have pass : ∀ l n a w, J l n a w → ∃ rest, findLabel c l = some rest ∧ rest.wp P (Exit.jumpG (fun l' a' w' => ∃ n', n' < n ∧ J l' n' a' w') Q) a w := fun l n a w h => by
    obtain ⟨X, h1, h2⟩ := pass0 l n a w h (fun l' a' w' => ∃ n', n' < n ∧ J l' n' a' w') fun _ n' _ _ h1 h2 => ⟨n', h1, h2⟩
    exact ⟨_, h1, wp_seq (wp_skip h2)⟩
  have first : c.wp P (Exit.jumpG (fun l' a' w' => ∃ n', J l' n' a' w') Q) a w := first0 (fun l n a w h Jh hJ => pass0 l n a w h Jh fun l' n' a' w' _ h' => hJ l' n' a' w' h') _ fun _ n' _ _ h => ⟨n', h⟩
  clear pass0 first0
  intro b k cs
  have hg : ∀ l rest, findLabel c l = some rest → gotoIn l (.inScope c :: k) = some (.code rest :: .inScope c :: k) := fun l rest hf => by simp [gotoIn, hf]
  have key : ∀ n l rest a w, J l n a w → findLabel c l = some rest → ∃ e a' w', Q e a' w' ∧ Arrives P (lone (b.at a (.code rest :: .inScope c :: k)) cs w) b k cs e a' w' := by
    intro n
    induction n using Nat.strongRecOn with
    | _ n ih =>
      intro l rest a w hJ hf
      obtain ⟨rest', hf', hp⟩ := pass l n a w hJ
      rw [hf] at hf'
      cases hf'
      obtain ⟨e, a₁, w₁, hq, harr⟩ := hp b (.inScope c :: k) cs
      cases e with
      | normal => exact ⟨.normal, a₁, w₁, hq, Steps.trans harr (.one step_inScope)⟩
      | exit id => exact ⟨.exit id, a₁, w₁, hq, fun k' hk => harr k' (by simp [exitTo, hk])⟩
      | goto l' =>
        obtain ⟨n', hlt, hJ'⟩ := hq
        obtain ⟨r2, hf2, _⟩ := pass l' n' a₁ w₁ hJ'
        obtain ⟨e₂, a₂, w₂, hq₂, harr₂⟩ := ih n' hlt l' r2 a₁ w₁ hJ' hf2
        exact ⟨e₂, a₂, w₂, hq₂, .of_steps (harr _ (hg l' r2 hf2)) harr₂⟩
      | ret => exact ⟨_, a₁, w₁, hq, harr⟩
      | panic ch => exact ⟨_, a₁, w₁, hq, harr⟩
      | outgrown => exact ⟨_, a₁, w₁, hq, harr⟩
  obtain ⟨e, a₁, w₁, hq, harr⟩ := first b (.inScope c :: k) cs
  cases e with
  | normal => exact ⟨.normal, a₁, w₁, hq, .head step_scope (Steps.trans harr (.one step_inScope))⟩
  | exit id => exact ⟨.exit id, a₁, w₁, hq, fun k' hk => .head step_scope (harr k' (by simp [exitTo, hk]))⟩
  | goto l' =>
    obtain ⟨n', hJ'⟩ := hq
    obtain ⟨r2, hf2, _⟩ := pass l' n' a₁ w₁ hJ'
    obtain ⟨e₂, a₂, w₂, hq₂, harr₂⟩ := key n' l' r2 a₁ w₁ hJ' hf2
    exact ⟨e₂, a₂, w₂, hq₂, .of_steps (.head step_scope (harr _ (hg l' r2 hf2))) harr₂⟩
  | ret => exact ⟨_, a₁, w₁, hq, .of_steps (.one step_scope) harr⟩
  | panic ch => exact ⟨_, a₁, w₁, hq, .of_steps (.one step_scope) harr⟩
  | outgrown => exact ⟨_, a₁, w₁, hq, .of_steps (.one step_scope) harr⟩
end
end Go
namespace Go.Proofs.Ytbibmncepjmgcaa
open Go.RowKit
def bcells (mb : List Bool) : Array Value := (mb.map Value.bool).toArray
theorem bcells_get (mb : List Bool) (i : Nat) (h : i < mb.length) : (bcells mb)[i]? = some (.bool (mb.getD i true)) := by simp [bcells, h]
theorem bcells_set (mb : List Bool) (i : Nat) (x : Bool) : (bcells mb).setIfInBounds i (.bool x) = bcells (mb.set i x) := by simp [bcells, List.map_set]
end Go.Proofs.Ytbibmncepjmgcaa
namespace Go.Proofs.Ytbibmncepjmgcaa
open Go.RowKit
theorem Most.setCell {g : Nat} {w w' : World} (h : Most g w w') (i : Nat) (v : Value) : Most g w (w'.setCell ⟨g, i, none⟩ v) :=
  h.trans (Only.set g i w' v).most
theorem Most.alloc {g : Nat} {w w' : World} (h : Most g w w') (o : Obj) : Most g w (w'.alloc o) :=
  h.trans (most_of_below ((Below.refl _ _).alloc (Nat.le_refl _) _))
end Go.Proofs.Ytbibmncepjmgcaa
namespace Go.Proofs.Ytbibmncepjmgcaa
open Go.RowKit
set_option maxRecDepth 100000 in
set_option maxHeartbeats 1000000 in
theorem eolI_any (n : Int) (ds es : List Int) (hds : ds.length = 16) (hes : es.length = 16) (hbd : Bytes ds) (hbe : Bytes es) (hd : IsS n ds) (he : IsS n es) (mb0 : List Bool) (hmb : mb0.length = 8) (g : Nat) (q : Int) (q0 : 0 ≤ q) (q2 : q < 2 * n) (w : World) (hg : Own w g (bcells mb0) 118) :
    Calls Try.prog 110 #[.agg (dcells n ds), .agg (dcells n es), .int .i64 q, .pointer (some ⟨g, 0, none⟩)] w fun e w' => e = .returned (.int .i64 (eP n (mate ds) (mate es) q)) ∧ Own w' g (bcells (mark (lP n (mate ds) (mate es) q) mb0)) 118 ∧ Most g w w' := by
  have hld := Lib.hid hds
  have hle := Lib.hid hes
  have hml := Lib.hid hmb
  have Md := Lib.hid (mt_of hbd hd)
  have Me := Lib.hid (mt_of hbe he)
  obtain ⟨h1, h8⟩ := hd.1
  have hF := Lib.hid (fol_p (mt_of hbd hd) (mt_of hbe he) h1 h8 q0 q2)
  obtain ⟨E, hE⟩ : ∃ E, eP n (mate ds) (mate es) q = E := ⟨_, rfl⟩
  obtain ⟨L0, hL0⟩ : ∃ L0, lP n (mate ds) (mate es) q = L0 := ⟨_, rfl⟩
  obtain ⟨mbE, hmE⟩ : ∃ mbE, mark L0 mb0 = mbE := ⟨_, rfl⟩
  rw [hE, hL0] at hF ⊢
  rw [hmE]
  have hM0 := Lib.hid hmE
  have glt := hg.lt
  have c0 := dcells_zero n ds
  clear hds hes hbd hbe hd he hmb hE hL0 hmE
  go_enter Try.func110, Try.ntmps110
  go_wp2
  refine wp_scope_jumpsG (fun l f a' w' => ∃ (p : Int) (mb : List Bool) (L : List Int) (u10 u11 u12 u13 u14 u15 u16 u17 u18 u19 u20 u21 u22 u23 u24 u25 u26 u27 u28 u29 u30 u31 u32 u33 u34 u35 u36 u37 u38 u39 u40 u41 u42 u43 u44 u45 u46 : Value), a' = { tmps := #[.agg (dcells n ds), .agg (dcells n es), .int .i64 p, .pointer (some ⟨g, 0, none⟩), .pointer (some ⟨w.heap.size, 0, none⟩), .pointer (some ⟨w.heap.size + 1, 0, none⟩), undef, undef, .int .i64 0, .int .i64 n, u10, u11, u12, u13, u14, u15, u16, u17, u18, u19, u20, u21, u22, u23, u24, u25, u26, u27, u28, u29, u30, u31, u32, u33, u34, u35, u36, u37, u38, u39, u40, u41, u42, u43, u44, u45, u46], defers := [] } ∧ (l = 0 ∨ l = 1) ∧ 0 ≤ p ∧ p < 2 * n ∧ Hid (mb.length = 8) ∧ Hid (fol n (mate ds) (mate es) f (decide (l = 1)) p = some (E, L)) ∧ Hid (mark L mb = mbE) ∧ Own w' w.heap.size (dcells n ds) 53 ∧ Own w' (w.heap.size + 1) (dcells n es) 53 ∧ Own w' g (bcells mb) 118 ∧ Most g w w') ?_ ?_
  · rintro l f a' wx ⟨p, mb, L, u10, u11, u12, u13, u14, u15, u16, u17, u18, u19, u20, u21, u22, u23, u24, u25, u26, u27, u28, u29, u30, u31, u32, u33, u34, u35, u36, u37, u38, u39, u40, u41, u42, u43, u44, u45, u46, rfl, hl, p0, p2, hmb, hfol, hmark, hO, hP, hM, hB⟩ Jh hJ
    rcases hl with rfl | rfl
    · refine ⟨_, rfl, ?_⟩
      obtain ⟨f', hff, hcase⟩ := fol_f hfol.out
      subst hff
      have eb := Me.out.lt p p0 p2
      obtain ⟨m, hm⟩ : ∃ m, mate es p = m := ⟨_, rfl⟩
      have c1 : wx.cell? ⟨w.heap.size + 1, 1 + p.toNat, none⟩ = some (.int .u8 m) := by rw [hP.cell, dcells_get _ _ _ (by rw [hle.out]; omega)]; unfold mate at hm; rw [hm]
      rw [hm] at hcase eb
      obtain ⟨m0, m2⟩ := eb
      have p16 : p < 16 := by omega
      rcases hcase with ⟨hmn, rfl, rfl⟩ | ⟨hmn, L', rfl, hfol'⟩
      · have hR := Lib.hid (show Own wx g (bcells mbE) 118 by rw [← hmark.out]; exact hM)
        have hBB := Lib.hid hB
        clear hfol hmark hO hP hM hB hm
        go_wp2
        rw [Exit.jumpG_ret]
        go_ret
        exact ⟨rfl, hR.out, hBB.out⟩
      · have f1 := hM.free m.toNat
        have c2 := hM.cell m.toNat
        rw [bcells_get _ _ (by rw [hmb.out]; omega)] at c2
        have hM2 := hM.set m.toNat (.bool true)
        rw [bcells_set] at hM2
        have k1 := Lib.hid hM2
        have k2 := Lib.hid (hO.other (a := ⟨g, m.toNat, none⟩) (by simp; omega) (.bool true))
        have k3 := Lib.hid (hP.other (a := ⟨g, m.toNat, none⟩) (by simp; omega) (.bool true))
        have k4 := Lib.hid (hB.setCell m.toNat (.bool true))
        have k5 := Lib.hid hfol'
        have k6 := Lib.hid (show mark L' (mb.set m.toNat true) = mbE by rw [← hmark.out]; rfl)
        have k7 := Lib.hid (show (mb.set m.toNat true).length = 8 by rw [List.length_set]; exact hmb.out)
        have m8 : m < 8 := by omega
        clear hfol hmark hO hP hM hM2 hB hm hfol'
        go_wp2
        go_step3
        rw [Exit.jumpG_goto]
        refine hJ _ f' _ _ (by omega) ?_
        rw [show m + n = n + m by omega]
        exact ⟨n + m, mb.set m.toNat true, L', _, _, _, _, _, _, _, _, _, _, _, _, _, _, _, _, _, _, _, _, _, _, _, _, _, _, _, _, _, _, _, _, _, _, _, _, _, rfl, .inr rfl, by omega, by omega, k7, k5, k6, k2.out, k3.out, k1.out, k4.out⟩
    · refine ⟨_, rfl, ?_⟩
      obtain ⟨f', hff, hcase⟩ := fol_t hfol.out
      subst hff
      have db := Md.out.lt p p0 p2
      obtain ⟨m, hm⟩ : ∃ m, mate ds p = m := ⟨_, rfl⟩
      have c1 : wx.cell? ⟨w.heap.size, 1 + p.toNat, none⟩ = some (.int .u8 m) := by rw [hO.cell, dcells_get _ _ _ (by rw [hld.out]; omega)]; unfold mate at hm; rw [hm]
      rw [hm] at hcase db
      obtain ⟨m0, m2⟩ := db
      have p16 : p < 16 := by omega
      rcases hcase with ⟨hmn, rfl, rfl⟩ | ⟨hmn, L', rfl, hfol'⟩
      · have hR := Lib.hid (show Own wx g (bcells mbE) 118 by rw [← hmark.out]; exact hM)
        have hBB := Lib.hid hB
        clear hfol hmark hO hP hM hB hm
        go_wp2
        rw [Exit.jumpG_ret]
        go_ret
        exact ⟨rfl, hR.out, hBB.out⟩
      · have f1 := hM.free (m - n).toNat
        have c2 := hM.cell (m - n).toNat
        rw [bcells_get _ _ (by rw [hmb.out]; omega)] at c2
        have hM2 := hM.set (m - n).toNat (.bool true)
        rw [bcells_set] at hM2
        have k1 := Lib.hid hM2
        have k2 := Lib.hid (hO.other (a := ⟨g, (m - n).toNat, none⟩) (by simp; omega) (.bool true))
        have k3 := Lib.hid (hP.other (a := ⟨g, (m - n).toNat, none⟩) (by simp; omega) (.bool true))
        have k4 := Lib.hid (hB.setCell (m - n).toNat (.bool true))
        have k5 := Lib.hid hfol'
        have k6 := Lib.hid (show mark L' (mb.set (m - n).toNat true) = mbE by rw [← hmark.out]; rfl)
        have k7 := Lib.hid (show (mb.set (m - n).toNat true).length = 8 by rw [List.length_set]; exact hmb.out)
        have m8 : m - n < 8 := by omega
        clear hfol hmark hO hP hM hM2 hB hm hfol'
        obtain ⟨p', hp'⟩ : ∃ p', m - n = p' := ⟨_, rfl⟩
        rw [hp'] at c2 f1 k1 k2 k3 k4 k5 k6 k7 m8
        go_wp2
        go_step3
        generalize wx.setCell ⟨g, p'.toNat, none⟩ (.bool true) = wy at k1 k2 k3 k4 ⊢
        generalize mb.set p'.toNat true = mb1 at k1 k6 k7
        have p0' : 0 ≤ p' := by omega
        have p2' : p' < 2 * n := by omega
        clear c1 c2 f1 m0 m2 hmn hp' p0 p2 p16 hmb m8
        have hfol := k5
        have hmark := k6
        have hmb := k7
        have hO := k2.out
        have hP := k3.out
        have hM := k1.out
        have hB := k4.out
        clear k1 k2 k3 k4 k5 k6 k7
        obtain ⟨f2, hff, hcase⟩ := fol_f hfol.out
        subst hff
        have eb := Me.out.lt p' p0' p2'
        obtain ⟨m, hm⟩ : ∃ m, mate es p' = m := ⟨_, rfl⟩
        have c1 : wy.cell? ⟨w.heap.size + 1, 1 + p'.toNat, none⟩ = some (.int .u8 m) := by rw [hP.cell, dcells_get _ _ _ (by rw [hle.out]; omega)]; unfold mate at hm; rw [hm]
        rw [hm] at hcase eb
        obtain ⟨m0, m2⟩ := eb
        have p16 : p' < 16 := by omega
        rcases hcase with ⟨hmn, rfl, rfl⟩ | ⟨hmn, L', rfl, hfol'⟩
        · have hR := Lib.hid (show Own wy g (bcells mbE) 118 by rw [← hmark.out]; exact hM)
          have hBB := Lib.hid hB
          clear hfol hmark hO hP hM hB hm
          go_wp2
          rw [Exit.jumpG_ret]
          go_ret
          exact ⟨rfl, hR.out, hBB.out⟩
        · have f1 := hM.free m.toNat
          have c2 := hM.cell m.toNat
          rw [bcells_get _ _ (by rw [hmb.out]; omega)] at c2
          have hM2 := hM.set m.toNat (.bool true)
          rw [bcells_set] at hM2
          have k1 := Lib.hid hM2
          have k2 := Lib.hid (hO.other (a := ⟨g, m.toNat, none⟩) (by simp; omega) (.bool true))
          have k3 := Lib.hid (hP.other (a := ⟨g, m.toNat, none⟩) (by simp; omega) (.bool true))
          have k4 := Lib.hid (hB.setCell m.toNat (.bool true))
          have k5 := Lib.hid hfol'
          have k6 := Lib.hid (show mark L' (mb1.set m.toNat true) = mbE by rw [← hmark.out]; rfl)
          have k7 := Lib.hid (show (mb1.set m.toNat true).length = 8 by rw [List.length_set]; exact hmb.out)
          have m8 : m < 8 := by omega
          clear hfol hmark hO hP hM hM2 hB hm hfol'
          go_wp2
          go_step3
          rw [Exit.jumpG_goto]
          refine hJ _ f2 _ _ (by omega) ?_
          rw [show m + n = n + m by omega]
          exact ⟨n + m, mb1.set m.toNat true, L', _, _, _, _, _, _, _, _, _, _, _, _, _, _, _, _, _, _, _, _, _, _, _, _, _, _, _, _, _, _, _, _, _, _, _, _, _, rfl, .inr rfl, by omega, by omega, k7, k5, k6, k2.out, k3.out, k1.out, k4.out⟩
  · intro hpass0 Jh hJ
    have hpass := Lib.hid hpass0
    clear hpass0
    have hO : Own ((w.alloc (.cells (dcells n ds) 53)).alloc (.cells (dcells n es) 53)) w.heap.size (dcells n ds) 53 := Own.alloc (Own.new _ _ _) _
    have hP : Own ((w.alloc (.cells (dcells n ds) 53)).alloc (.cells (dcells n es) 53)) (w.heap.size + 1) (dcells n es) 53 := Own.at _ _ _ (by simp)
    have hM : Own ((w.alloc (.cells (dcells n ds) 53)).alloc (.cells (dcells n es) 53)) g (bcells mb0) 118 := (hg.alloc _).alloc _
    have hB : Most g w ((w.alloc (.cells (dcells n ds) 53)).alloc (.cells (dcells n es) 53)) := ((Most.refl _ _).alloc _).alloc _
    generalize (w.alloc (.cells (dcells n ds) 53)).alloc (.cells (dcells n es) 53) = wx at hO hP hM hB ⊢
    have c1 := hO.cell 0
    rw [dcells_zero] at c1
    clear c0 hg
    by_cases hq : q < n
    · have e1 : decide (q < n) = true := by simp [hq]
      rw [e1] at hF
      have hO := Lib.hid hO
      have hP := Lib.hid hP
      have hM := Lib.hid hM
      have hB := Lib.hid hB
      clear e1
      go_wp2
      go_step3
      go_step
      refine (by assumption : ∀ (a : Act) (w : World), Code.wp _ _ _ a w → _) _ _ ?_
      obtain ⟨X, hr, hw⟩ := hpass.out 1 17 _ _ ⟨q, mb0, L0, _, _, _, _, _, _, _, _, _, _, _, _, _, _, _, _, _, _, _, _, _, _, _, _, _, _, _, _, _, _, _, _, _, _, _, _, _, rfl, .inr rfl, q0, q2, hml, hF, hM0, hO.out, hP.out, hM.out, hB.out⟩ Jh hJ
      have e2 := hr
      injection e2 with e2
      injection e2 with _ e2
      rw [← e2] at hw
      exact hw
    · have e1 : decide (q < n) = false := by simp [hq]
      rw [e1] at hF
      have hO := Lib.hid hO
      have hP := Lib.hid hP
      have hM := Lib.hid hM
      have hB := Lib.hid hB
      clear e1
      go_wp2
      go_step3
      show Jh 0 _ _
      exact hJ 0 17 _ _ ⟨q, mb0, L0, _, _, _, _, _, _, _, _, _, _, _, _, _, _, _, _, _, _, _, _, _, _, _, _, _, _, _, _, _, _, _, _, _, _, _, _, _, rfl, .inl rfl, q0, q2, hml, hF, hM0, hO.out, hP.out, hM.out, hB.out⟩
end Go.Proofs.Ytbibmncepjmgcaa
namespace Go.Proofs.Ytbibmncepjmgcaa
open Go.RowKit
open LoopM
theorem mk_met {u v : Int → Int} {f : Nat} {p : Int} {mb : List Bool} (h : mb.getD p.toNat true = true) : mk u v f p mb = mb := by
  cases f with
  | zero => rfl
  | succ f => unfold mk; rw [if_pos h]
theorem mk_next {u v : Int → Int} {f : Nat} {p : Int} {mb : List Bool} (h : mb.getD p.toNat true = false) : mk u v (f + 1) p mb = mk u v f (v (u p)) ((mb.set p.toNat true).set (u p).toNat true) := by
  rw [mk, if_neg (by rw [h]; simp)]
theorem way_start {n : Int} {M : List Bool} {u v : Int → Int} {q : Int} (hq : ¬ On M q) : LoopM.Way n M u v q M q :=
  ⟨rfl, fun _ _ _ x => x, fun _ _ _ x => .inl x, .refl, fun _ _ _ x y => absurd y x, fun _ _ _ x => .inl x, fun x => absurd x hq, .inl ⟨rfl, rfl⟩⟩
theorem off_of {mb : List Bool} {p : Int} (h : mb.getD p.toNat true = false) : ¬ On mb p := by unfold On; rw [h]; simp
set_option maxRecDepth 100000 in
set_option maxHeartbeats 1000000 in
theorem markI_any (n : Int) (ds es : List Int) (hds : ds.length = 16) (hes : es.length = 16) (h1 : 1 ≤ n) (h8 : n ≤ 8) (M : List Bool) (hM8 : M.length = 8) (hu : Free n M (mate es)) (hv : Free n M (vD n (mate ds))) (g : Nat) (q : Int) (q0 : 0 ≤ q) (q2 : q < n) (hq : ¬ On M q) (w : World) (hg : Own w g (bcells M) 118) :
    Calls Try.prog 111 #[.agg (dcells n ds), .agg (dcells n es), .int .i64 q, .pointer (some ⟨g, 0, none⟩)] w fun e w' => e = .returned (.tuple #[]) ∧ Own w' g (bcells (mk (mate es) (vD n (mate ds)) 8 q M)) 118 ∧ Most g w w' := by
  have hld := Lib.hid hds
  have hle := Lib.hid hes
  have hml := Lib.hid hM8
  have HU := Lib.hid hu
  have HV := Lib.hid hv
  have HQ := Lib.hid hq
  have HW := Lib.hid (way_start (n := n) (u := mate es) (v := vD n (mate ds)) hq)
  have hcM := Lib.hid (show M.count false ≤ 8 by rw [← hM8]; exact List.count_le_length)
  obtain ⟨R, hR⟩ : ∃ R, mk (mate es) (vD n (mate ds)) 8 q M = R := ⟨_, rfl⟩
  rw [hR]
  have HR := Lib.hid hR
  have glt := hg.lt
  clear hds hes hM8 hu hv hq hR
  go_enter Try.func111, Try.ntmps111
  go_wp2
  have hO : Own ((w.alloc (.cells (dcells n ds) 53)).alloc (.cells (dcells n es) 53)) w.heap.size (dcells n ds) 53 := Own.alloc (Own.new _ _ _) _
  have hP : Own ((w.alloc (.cells (dcells n ds) 53)).alloc (.cells (dcells n es) 53)) (w.heap.size + 1) (dcells n es) 53 := Own.at _ _ _ (by simp)
  have hM : Own ((w.alloc (.cells (dcells n ds) 53)).alloc (.cells (dcells n es) 53)) g (bcells M) 118 := (hg.alloc _).alloc _
  have hB : Most g w ((w.alloc (.cells (dcells n ds) 53)).alloc (.cells (dcells n es) 53)) := ((Most.refl _ _).alloc _).alloc _
  generalize (w.alloc (.cells (dcells n ds) 53)).alloc (.cells (dcells n es) 53) = wa at hO hP hM hB ⊢
  clear hg
  go_loopg [2] 8 (fun f p wx => ∃ (r : Int) (mb : List Bool), p = .int .i64 r ∧ Hid (LoopM.Way n M (mate es) (vD n (mate ds)) q mb r) ∧ Hid (mb.count false ≤ f) ∧ Hid (mk (mate es) (vD n (mate ds)) f r mb = R) ∧ Own wx w.heap.size (dcells n ds) 53 ∧ Own wx (w.heap.size + 1) (dcells n es) 53 ∧ Own wx g (bcells mb) 118 ∧ Most g w wx)
  case atStart => exact ⟨q, M, rfl, HW, hcM, HR, hO, hP, hM, hB⟩
  case round =>
    clear hO hP hM hB
    obtain ⟨r, mb, rfl, hW, hcnt, hmk, hO, hP, hM, hB⟩ := hrel
    obtain ⟨r0, r2, rm⟩ := rch_bd HU.out HV.out q0 q2 HQ.out hW.out.rch
    have hl8 : mb.length = 8 := by rw [hW.out.len]; exact hml.out
    have j1 := hM.cell r.toNat
    rw [bcells_get _ _ (by omega)] at j1
    obtain ⟨b, hb⟩ : ∃ b, mb.getD r.toNat true = b := ⟨_, rfl⟩
    rw [hb] at j1
    have r8 : r < 8 := by omega
    cases b with
    | true =>
      have hR2 := Lib.hid (show Own wr g (bcells R) 118 by rw [← hmk.out, mk_met hb]; exact hM)
      have hBB := Lib.hid hB
      clear rm hb hl8 hO hP hM hB
      go_wp2
      go_end0
      exact ⟨rfl, hR2.out, hBB.out⟩
    | false =>
      obtain ⟨f', hf⟩ : ∃ f', gk = f' + 1 := ⟨gk - 1, by have := cnt_lt mb r.toNat hb; have := hcnt.out; omega⟩
      subst hf
      have hWs := Lib.hid (way_step (by have := hml.out; omega) HU.out HV.out q0 q2 HQ.out hW.out (off_of hb))
      have ub := HU.out.bd r r0 r2 rm
      have uo := HU.out.off r r0 r2 rm
      have vb := HV.out.bd _ ub.1 ub.2 uo
      have hk2 := Lib.hid (show mk (mate es) (vD n (mate ds)) f' (vD n (mate ds) (mate es r)) ((mb.set r.toNat true).set (mate es r).toNat true) = R by rw [← hmk.out, mk_next hb])
      have hcnt2 := Lib.hid (show ((mb.set r.toNat true).set (mate es r).toNat true).count false ≤ f' by
        have x1 := cnt_lt mb r.toNat hb
        have x2 := cnt_le (mb.set r.toNat true) (mate es r).toNat
        have := hcnt.out
        omega)
      obtain ⟨m, hm⟩ : ∃ m, mate es r = m := ⟨_, rfl⟩
      rw [hm] at hWs ub uo vb hk2 hcnt2
      obtain ⟨p, hp⟩ : ∃ p, mate ds (n + m) = p := ⟨_, rfl⟩
      have hvp : vD n (mate ds) m = p - n := by unfold vD; rw [hp]
      rw [hvp] at hWs vb hk2
      obtain ⟨m0, m2⟩ := ub
      obtain ⟨v0, v2⟩ := vb
      have m8 : m < 8 := by omega
      have p0 : 0 ≤ p := by omega
      have p16 : p < 16 := by omega
      have c1 : wr.cell? ⟨w.heap.size + 1, 1 + r.toNat, none⟩ = some (.int .u8 m) := by rw [hP.cell, dcells_get _ _ _ (by rw [hle.out]; omega)]; unfold mate at hm; rw [hm]
      have c3 : (wr.setCell ⟨g, r.toNat, none⟩ (.bool true)).cell? ⟨g, m.toNat, none⟩ = some (.bool ((mb.set r.toNat true).getD m.toNat true)) := by
        rw [(hM.set _ _).cell, bcells_set, bcells_get _ _ (by rw [List.length_set]; omega)]
      have f1 := hM.free r.toNat
      have f2 := hM.free m.toNat
      have hM2 := (hM.set r.toNat (.bool true)).set m.toNat (.bool true)
      rw [bcells_set, bcells_set] at hM2
      have hO2 := (hO.other (a := ⟨g, r.toNat, none⟩) (by simp; omega) (.bool true)).other (a := ⟨g, m.toNat, none⟩) (by simp; omega) (.bool true)
      have hP2 := (hP.other (a := ⟨g, r.toNat, none⟩) (by simp; omega) (.bool true)).other (a := ⟨g, m.toNat, none⟩) (by simp; omega) (.bool true)
      have hB2 := (hB.setCell r.toNat (.bool true)).setCell m.toNat (.bool true)
      have d0 := hO2.cell 0
      rw [dcells_zero] at d0
      have d1 : ((wr.setCell ⟨g, r.toNat, none⟩ (.bool true)).setCell ⟨g, m.toNat, none⟩ (.bool true)).cell? ⟨w.heap.size, 1 + (n + m).toNat, none⟩ = some (.int .u8 p) := by
        rw [hO2.cell, dcells_get _ _ _ (by rw [hld.out]; omega)]; unfold mate at hp; rw [hp]
      have K1 := Lib.hid hM2
      have K2 := Lib.hid hO2
      have K3 := Lib.hid hB2
      have K4 := Lib.hid hP2
      clear hM2 hO2 hB2 hP2 hW hcnt hmk hO hP hM hB rm uo hm hp hvp hb
      go_wp2
      go_region
      go_wp2
      go_quiet (fail)
      go_wp2
      go_roundg f'
      case measure => omega
      case rel => exact ⟨_, _, rfl, hWs, hcnt2, hk2, K2.out, K4.out, K1.out, (K3.out.trans (most_of_below ((Below.refl _ _).drew))).trans (most_of_below (Below.drewN (Below.refl _ _) _))⟩
theorem built81 : Try.prog.built 118 [] = some (bcells f8) := by kernel_rfl
set_option maxRecDepth 100000 in
set_option maxHeartbeats 1000000 in
theorem prodI_any (n : Int) (ds es : List Int) (hds : ds.length = 16) (hes : es.length = 16) (hbd : Bytes ds) (hbe : Bytes es) (hd : IsS n ds) (he : IsS n es) (w : World) :
    Calls Try.prog 80 #[.agg (dcells n ds), .agg (dcells n es)] w fun e w' => e = .returned (.tuple #[.agg (dcells n (prodL n (mate ds) (mate es))), .int .i64 (loopsP n (mate ds) (mate es))]) ∧ Below w.heap.size w w' := by
  have hld := Lib.hid hds
  have hle := Lib.hid hes
  have md := mt_of hbd hd
  have me := mt_of hbe he
  obtain ⟨h1, h8⟩ := hd.1
  have hEol := Lib.hid (fun mb0 hmb g q q0 q2 w hg => eolI_any n ds es hds hes hbd hbe hd he mb0 hmb g q q0 q2 w hg)
  have hMark := Lib.hid (fun M hM8 hu hv g q q0 q2 hq w hg => markI_any n ds es hds hes h1 h8 M hM8 hu hv g q q0 q2 hq w hg)
  have hE := Lib.hid (fun (p : Int) (p0 : 0 ≤ p) (p2 : p < 2 * n) => (p_bd md me h1 h8 p0 p2).1)
  have hSw := Lib.hid (fun k hk => (lps_swap (metA_len n (mate ds) (mate es)) h8 (free_e md me h1 h8) (free_d md me h1 h8) k hk).2)
  have c0 := dcells_zero n ds
  have hlp := Lib.hid (prodL_len n (mate ds) (mate es))
  have hla := Lib.hid (metA_len n (mate ds) (mate es))
  unfold loopsP
  obtain ⟨pr, hpr⟩ : ∃ pr, prodL n (mate ds) (mate es) = pr := ⟨_, rfl⟩
  obtain ⟨M, hMe⟩ : ∃ M, metA n (mate ds) (mate es) = M := ⟨_, rfl⟩
  rw [hpr] at hlp ⊢
  rw [hMe] at hSw hla ⊢
  have hPR := Lib.hid (show prI n (mate ds) (mate es) (2 * n).toNat = pr from hpr)
  have hME := Lib.hid (show metI n (mate ds) (mate es) (2 * n).toNat = M from hMe)
  obtain ⟨lc, hlc⟩ : ∃ lc, (lps (mate es) (vD n (mate ds)) M n.toNat).2 = lc := ⟨_, rfl⟩
  rw [hlc]
  have hLC := Lib.hid hlc
  clear hds hes hbd hbe hd he md me hpr hMe hlc
  go_enter Try.func80, Try.ntmps80
  go_wp2_with (first
    | (go_at_call 77; ((with_reducible refine (newMates_any _).mono ?_); rintro e w0 ⟨rfl, rfl⟩)))
  clear c0
  go_loopw [17] (fun i wr => ∃ k : Nat, k ≤ 2 * n ∧ i = .int .i64 k ∧ Own wr w.heap.size (dcells n ds) 53 ∧ Own wr (w.heap.size + 1) (dcells n es) 53 ∧ Own wr (w.heap.size + 2) zcells 53 ∧ Own wr (w.heap.size + 3) (mcells (prI n (mate ds) (mate es) k)) 5 ∧ Own wr (w.heap.size + 4) (bcells (metI n (mate ds) (mate es) k)) 118 ∧ Below w.heap.size w wr) (fun i _ => (2 * n - intOf i).toNat)
  case atStart => exact ⟨0, by omega, rfl, Own.alloc (Own.alloc (Own.alloc (Own.alloc (Own.new _ _ _) _) _) _) _, Own.alloc (Own.alloc (Own.alloc (Own.at _ _ _ (by simp)) _) _) _, Own.alloc (Own.alloc (Own.at _ _ _ (by simp)) _) _, Own.alloc (Own.at _ _ _ (by simp)) _, Own.at _ _ _ (by simp), (((((Below.refl _ _).alloc (Nat.le_refl _) _).alloc (by simp) _).alloc (by simp; omega) _).alloc (by simp; omega) _).alloc (by simp; omega) _⟩
  case round =>
    obtain ⟨k, hk, rfl, hO, hP, hZ, hC, hM, hB⟩ := hrel
    by_cases hlt : (k : Int) < 2 * n
    · have hl1 := prI_len n (mate ds) (mate es) k
      have hl2 := metI_len n (mate ds) (mate es) k
      have hs1 := Lib.hid (show prI n (mate ds) (mate es) (k + 1) = (prI n (mate ds) (mate es) k).set k (eP n (mate ds) (mate es) k) from rfl)
      have hs2 := Lib.hid (show metI n (mate ds) (mate es) (k + 1) = mark (lP n (mate ds) (mate es) k) (metI n (mate ds) (mate es) k) from rfl)
      have hcall := Lib.hid (hEol.out _ hl2 _ k (by omega) hlt wr hM)
      have eb := hE.out k (by omega) hlt
      obtain ⟨E, hEe⟩ : ∃ E, eP n (mate ds) (mate es) k = E := ⟨_, rfl⟩
      rw [hEe] at hs1 hcall eb
      obtain ⟨E0, E2⟩ := eb
      have hk16 : (k : Int) < 16 := by omega
      have e16 : E < 16 := by omega
      generalize prI n (mate ds) (mate es) k = pl at hC hl1 hs1
      generalize metI n (mate ds) (mate es) k = ml at hM hl2 hs2 hcall
      clear hEe
      have hsz := hB.size
      have hM' := Lib.hid hM
      clear hM
      have hl1' := Lib.hid hl1
      have hl2' := Lib.hid hl2
      clear hl1 hl2
      go_wp2_with (first
        | (refine wpList_load_row rfl 53 _ rfl _ rfl 53 _ (0, 0) _ (hO) Try.underlying53 rfl (row26 (d17 _ _ (hld.out))) ?_)
        | (refine wpList_load_row rfl 53 _ rfl _ rfl 53 _ (0, 0) _ (hP) Try.underlying53 rfl (row26 (d17 _ _ (hle.out))) ?_)
        | ((go_at_call 110; ((with_reducible refine (hcall.out).mono ?_); rintro e w2 ⟨rfl, hM2, hT2⟩)); have hC2 := hC.most hT2 (by omega); have c2 := hC2.cell k; rw [mcells_get _ _ (by rw [hl1'.out]; omega)] at c2; have f2 := hC2.free k))
      go_roundw
      case rel => 
        have hC3 := hC2.set k (.int .u8 E)
        rw [mcells_set] at hC3
        refine ⟨k + 1, by omega, by go_num, (hO.most hT2 (by omega)).other (by simp <;> omega) _, (hP.most hT2 (by omega)).other (by simp <;> omega) _, (hZ.most hT2 (by omega)).other (by simp <;> omega) _, by rw [hs1.out]; exact hC3, by rw [hs2.out]; exact hM2.other (by simp <;> omega) _, ?_⟩
        exact (hB.trans (hT2.below hsz (by omega))).setCell (by simp; omega) _
      case measure => simp [intOf]; omega
    · have hk2 : k = (2 * n).toNat := by omega
      subst hk2
      rw [hPR.out] at hC
      rw [hME.out] at hM
      have hC := Lib.hid hC
      have hM := Lib.hid hM
      have hOO := Lib.hid hO
      have hPP := Lib.hid hP
      have hZZ := Lib.hid hZ
      have hBB := Lib.hid hB
      clear hEol hE hO hP hZ hB
      go_wp2
      clear hk
      go_loopw [10, 30] (fun l i wx => ∃ k : Nat, k ≤ n ∧ i = .int .i64 k ∧ l = .int .i64 (lps (mate es) (vD n (mate ds)) M k).2 ∧ Own wx w.heap.size (dcells n ds) 53 ∧ Own wx (w.heap.size + 1) (dcells n es) 53 ∧ Own wx (w.heap.size + 2) zcells 53 ∧ Own wx (w.heap.size + 3) (mcells pr) 5 ∧ Own wx (w.heap.size + 4) (bcells (lps (mate es) (vD n (mate ds)) M k).1) 118 ∧ Below w.heap.size w wx) (fun _ i _ => (n - intOf i).toNat)
      case atStart => exact ⟨0, by omega, rfl, rfl, hOO.out, hPP.out, hZZ.out, hC.out, hM.out, hBB.out⟩
      case round =>
        clear hOO hPP hZZ hC hM hBB
        obtain ⟨k, hk, rfl, rfl, hO, hP, hZ, hC, hM, hB⟩ := hrel
        have hkl := lps_len (mate es) (vD n (mate ds)) M k
        rw [hla.out] at hkl
        have hkb := lps_bd (mate es) (vD n (mate ds)) M k
        have hfr := Lib.hid (hSw.out k hk)
        by_cases hlt : (k : Int) < n
        · have k1 := hM.cell k
          rw [bcells_get _ _ (by rw [hkl]; omega)] at k1
          obtain ⟨b, hbq⟩ : ∃ b, (lps (mate es) (vD n (mate ds)) M k).1.getD k true = b := ⟨_, rfl⟩
          rw [hbq] at k1
          have hk8 : (k : Int) < 8 := by omega
          cases b with
          | true =>
            have e1 := Lib.hid (show lps (mate es) (vD n (mate ds)) M (k + 1) = lps (mate es) (vD n (mate ds)) M k by rw [lps, if_pos hbq])
            clear hbq
            go_wp2
            go_roundw
            case rel => exact ⟨k + 1, by omega, by go_num, by rw [e1.out], hO, hP, hZ, hC, by rw [e1.out]; exact hM, hB⟩
            case measure => simp [intOf]; omega
          | false =>
            have e1 := Lib.hid (show lps (mate es) (vD n (mate ds)) M (k + 1) = (mk (mate es) (vD n (mate ds)) 8 k (lps (mate es) (vD n (mate ds)) M k).1, (lps (mate es) (vD n (mate ds)) M k).2 + 1) by rw [lps, if_neg (by rw [hbq]; simp)])
            have hcall := Lib.hid (hMark.out _ hkl hfr.out.1 hfr.out.2 _ k (by omega) hlt (by unfold On; rw [show ((k : Int)).toNat = k by omega, hbq]; simp) wr hM)
            generalize (lps (mate es) (vD n (mate ds)) M k).2 = c at hkb e1 ⊢
            generalize (lps (mate es) (vD n (mate ds)) M k).1 = mb at hkl e1 hcall hM hfr hbq
            have hM' := Lib.hid hM
            have hkl' := Lib.hid hkl
            clear hM hkl hbq
            go_wp2_with (first
              | (refine wpList_load_row rfl 53 _ rfl _ rfl 53 _ (0, 0) _ (hO) Try.underlying53 rfl (row26 (d17 _ _ (hld.out))) ?_)
              | (refine wpList_load_row rfl 53 _ rfl _ rfl 53 _ (0, 0) _ (hP) Try.underlying53 rfl (row26 (d17 _ _ (hle.out))) ?_)
              | (go_at_call 111; ((with_reducible refine (hcall.out).mono ?_); rintro e w2 ⟨rfl, hM2, hT2⟩)))
            go_roundw
            case rel =>
              have hsz := hB.size
              exact ⟨k + 1, by omega, by go_num, by rw [e1.out], hO.most hT2 (by omega), hP.most hT2 (by omega), hZ.most hT2 (by omega), hC.most hT2 (by omega), by rw [e1.out]; exact hM2, hB.trans (hT2.below hsz (by omega))⟩
            case measure => simp [intOf]; omega
        · have e : (lps (mate es) (vD n (mate ds)) M k).2 = lc := by rw [show k = n.toNat by omega]; exact hLC.out
          rw [e] at hkb ⊢
          have hsz := hB.size
          clear hMark hSw hfr hM hO hP e
          go_wp2_with (first
            | (go_at_call 79; ((with_reducible refine (dom_any _ pr hlp.out n _ hC).mono ?_); rintro e w2 ⟨rfl, hB2⟩))
            | (refine wpList_store_own rfl 53 _ _ rfl _ _ rfl rfl 53 _ (hZ.below hB2 hZ.lt) (row26 (d17 _ _ (hlp.out))) (z_eq (d17 _ _ hlp.out)) (dcells_one _ _) ?_; intro w3 hO3 hN3))
          refine bodyPost_ret (v := .tuple #[.agg (dcells n pr), .int .i64 lc]) (results_row_tmp rfl _ _ _ _ _ (0, 0) _ rfl (hO3) Try.underlying53 rfl (row26 (d17 _ _ (hlp.out))) _ rfl) rfl (⟨rfl, ?_⟩)
          exact (hB.trans (hB2.mono hsz)).trans (hN3.below.mono (by omega))
end Go.Proofs.Ytbibmncepjmgcaa
