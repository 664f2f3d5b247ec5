/- Irreducible pairs: the program's reading. -/
import Derived.Test.YtbikpagoeeelbaaApa
import Derived.WalkMore
import Derived.BigQuiet
namespace Go.Proofs.Ytbikpagoeeelbaa
open Go.RowKit
set_option linter.unusedVariables false
set_option linter.unusedSimpArgs false
theorem noGoto_retI {Q : Exit → Act → World → Prop} {a : Act} {w : World} (h : Q .ret a w) : Exit.noGoto Q .ret a w := h
/-- No interval of less than l points is closed. -/
def NoL (f g : Nat → Nat) (L l : Nat) : Prop := ∀ a b, a ≤ b → b < L → b - a + 1 < l → ¬ closedB f g a b
/-- Nor one of l points that begins before c. -/
def NoF (f g : Nat → Nat) (l c : Nat) : Prop := ∀ a, a < c → ¬ closedB f g a (a + l - 1)
theorem noL_step {f g : Nat → Nat} {L l : Nat} (h1 : 1 ≤ l) (h : NoL f g L l) (h2 : NoF f g l (L - l + 1)) : NoL f g L (l + 1) := by
  intro a b hab hb hl
  by_cases e : b - a + 1 < l
  · exact h a b hab hb e
  · have : b = a + l - 1 := by omega
    rw [this]; exact h2 a (by omega)
theorem noF_step {f g : Nat → Nat} {l c : Nat} (h : NoF f g l c) (h2 : ¬ closedB f g c (c + l - 1)) : NoF f g l (c + 1) := by
  intro a ha
  by_cases e : a = c
  · subst e; exact h2
  · exact h a (by omega)
/-- From c to p no arch leaves the points from c to d. -/
def OkP (f g : Nat → Nat) (c d p : Nat) : Prop := ∀ q, c ≤ q → q < p → (c ≤ f q ∧ f q ≤ d) ∧ (c ≤ g q ∧ g q ≤ d)
set_option maxRecDepth 100000 in
set_option maxHeartbeats 4000000 in
theorem irrI_any (L : Nat) (oa ob : List Int) (ha : Sys L oa) (hb : Sys L ob) (ga gb : Nat) (w : World) (hA : Arc w ga L oa) (hB : Arc w gb L ob) (b : Bool) (hbI : b = true ↔ Irr (mf oa) (mf ob) L) :
    Calls Try.prog 53 #[.slice (some ⟨ga, 0, none⟩) L L, .slice (some ⟨gb, 0, none⟩) L L] w fun e w' => e = .returned (.bool b) ∧ Below w.heap.size w w' := by
  have h12 := ha.top
  have h2 := ha.two
  have CA := Lib.hid (show ∀ wx, Below w.heap.size w wx → ∀ j, j < L → wx.cell? ⟨ga, j, none⟩ = some (.int .i64 ((mf oa j : Nat) : Int)) from fun wx h j hj => Arc.cell (Own.below hA h (Own.lt hA)) ha j hj)
  have CB := Lib.hid (show ∀ wx, Below w.heap.size w wx → ∀ j, j < L → wx.cell? ⟨gb, j, none⟩ = some (.int .i64 ((mf ob j : Nat) : Int)) from fun wx h j hj => Arc.cell (Own.below hB h (Own.lt hB)) hb j hj)
  have FA := Lib.hid ha.mf.lt
  have FB := Lib.hid hb.mf.lt
  have HI := Lib.hid hbI
  generalize hF : mf oa = F at *
  generalize hG : mf ob = G at *
  clear hF hG ha hb hA hB hbI
  go_enter Try.func53, Try.ntmps53
  go_wp2
  go_loopw [6] (fun i wr => ∃ l : Nat, 1 ≤ l ∧ l ≤ L ∧ i = .int .i64 l ∧ Hid (NoL F G L l) ∧ Below w.heap.size w wr) (fun i _ => ((L : Int) - intOf i).toNat)
  case atStart => exact ⟨1, by omega, by omega, rfl, Lib.hid (fun a b _ _ h => by omega), Below.refl _ _⟩
  case round =>
    obtain ⟨l, hl1, hl2, rfl, hN, hW⟩ := hrel
    by_cases hlt : l < L
    · have i1 : (l : Int) < (L : Int) := by omega
      go_wp2
      go_step3
      go_wp2
      go_step3
      go_wp2
      go_loopw [21] (fun i wx => ∃ c : Nat, c ≤ L - l + 1 ∧ i = .int .i64 c ∧ Hid (NoF F G l c) ∧ Below w.heap.size w wx) (fun i _ => ((L : Int) + 1 - intOf i).toNat)
      case atStart => exact ⟨0, by omega, rfl, Lib.hid (fun a h => by omega), hW⟩
      case round =>
        clear hW
        obtain ⟨c, hc, rfl, hC, hW⟩ := hrel
        by_cases hcl : c < L - l + 1
        · have i2 : (c : Int) < (L : Int) - (l : Int) + 1 := by omega
          obtain ⟨d, hd⟩ : ∃ d, c + l - 1 = d := ⟨_, rfl⟩
          have hdI : (c : Int) + (l : Int) - 1 = (d : Int) := by omega
          have hstep := Lib.hid (noF_step hC.out)
          rw [hd] at hstep
          go_wp2
          go_loopw [9] (fun i wy => ∃ p : Nat, c ≤ p ∧ p ≤ d + 1 ∧ i = .int .i64 p ∧ Hid (OkP F G c d p) ∧ Below w.heap.size w wy) (fun i _ => ((d : Int) + 1 - intOf i).toNat)
          case atStart => exact ⟨c, by omega, by omega, rfl, Lib.hid (fun q h1 h2 => by omega), hW⟩
          case round =>
            clear hW
            obtain ⟨p, hp1, hp2, rfl, hP, hW⟩ := hrel
            by_cases hpd : p ≤ d
            · have j1 : (p : Int) ≤ (d : Int) := by omega
              have hpL : p < L := by omega
              have a1 := CA.out _ (Below.drewN hW 1) p hpL
              have b1 := CB.out _ (Below.drewN hW 1) p hpL
              have a0 := CA.out _ hW p hpL
              have b0 := CB.out _ hW p hpL
              have fx := FA.out p hpL
              have gx := FB.out p hpL
              obtain ⟨x, hx⟩ : ∃ x : Int, ((F p : Nat) : Int) = x := ⟨_, rfl⟩
              obtain ⟨y, hy⟩ : ∃ y : Int, ((G p : Nat) : Int) = y := ⟨_, rfl⟩
              rw [hx] at a1 a0
              rw [hy] at b1 b0
              obtain ⟨u, hu⟩ : ∃ u : Int, (if y < x then y else x) = u := ⟨_, rfl⟩
              obtain ⟨v, hv⟩ : ∃ v : Int, (if x < y then y else x) = v := ⟨_, rfl⟩
              have hu0 := Lib.hid hu
              have hv0 := Lib.hid hv
              by_cases k1 : u < (c : Int)
              · have hF2 := Lib.hid (hstep.out (fun hcl => by
                  have := hcl p hp1 hpd
                  have hu := hu0.out
                  split at hu <;> omega))
                clear hx hy hP hC
                go_wp2
                go_quiet (fail)
                go_wp2
                go_roundw
                case rel => exact ⟨c + 1, by omega, by go_num, hF2, Below.drewN hW _⟩
                case measure => simp [intOf]; omega
              · by_cases k2 : (d : Int) < v
                · have hF2 := Lib.hid (hstep.out (fun hcl => by
                    have := hcl p hp1 hpd
                    have hv := hv0.out
                    split at hv <;> omega))
                  clear hx hy hP hC
                  go_wp2
                  go_quiet (fail)
                  go_wp2
                  go_roundw
                  case rel => exact ⟨c + 1, by omega, by go_num, hF2, Below.drewN hW _⟩
                  case measure => simp [intOf]; omega
                · have hP2 := Lib.hid (show OkP F G c d (p + 1) from fun q h1 h2 => by
                    by_cases e : q = p
                    · subst e
                      have hu := hu0.out
                      have hv := hv0.out
                      split at hu <;> split at hv <;> omega
                    · exact hP.out q h1 (by omega))
                  clear hx hy hP hC
                  go_wp2
                  go_quiet (fail)
                  go_wp2
                  go_roundw
                  case rel => exact ⟨p + 1, by omega, by omega, by go_num, hP2, Below.drewN hW _⟩
                  case measure => simp [intOf]; omega
            · have j1 : ¬ (p : Int) ≤ (d : Int) := by omega
              have hcl2 : closedB F G c d := fun q h1 h2 => hP.out q h1 (by omega)
              have hbf : b = false := by
                cases b with
                | false => rfl
                | true => exact absurd hcl2 (HI.out.1 rfl c d (by omega) (by omega) (by omega))
              subst hbf
              go_wp2
              go_ret
              exact ⟨rfl, hW⟩
        · have e : c = L - l + 1 := by omega
          have i2 : ¬ (c : Int) < (L : Int) - (l : Int) + 1 := by omega
          have hN2 := Lib.hid (noL_step hl1 hN.out (e ▸ hC.out))
          go_wp2
          go_roundw
          case rel => exact ⟨l + 1, by omega, by omega, by go_num, hN2, hW⟩
          case measure => simp [intOf]; omega
    · have e : l = L := by omega
      subst e
      have hbt : b = true := HI.out.2 (fun a b h1 h2 h3 => hN.out a b h1 h2 h3)
      subst hbt
      go_wp2
      go_ret
      exact ⟨rfl, hW⟩
end Go.Proofs.Ytbikpagoeeelbaa
