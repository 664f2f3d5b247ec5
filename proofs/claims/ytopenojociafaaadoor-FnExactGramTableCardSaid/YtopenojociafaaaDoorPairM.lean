/- Plain mathematics: the pairing of two half diagrams, as the model walks it. -/
import Derived.Test.YtopenojociafaaaDoorProdM
import Derived.Test.YtopenojociafaaaDoorHdM
import Derived.Test.YtopenojociafaaaDoorHv
namespace Go.Proofs.YtopenojociafaaaDoor
open LoopM
def nx (A B : List Int) (up : Bool) (q : Nat) : Int := if up then A.getD q 0 else B.getD q 0
/-- Along a line from an open point. -/
def pwk (A B : List Int) : Nat → Nat → Bool → List Bool → Option (List Bool × Bool)
  | 0, _, _, _ => none
  | f + 1, q, up, mt => if nx A B up q = (q : Int) then some (mt.set q true, !up) else pwk A B f (nx A B up q).toNat (!up) ((mt.set q true).set (nx A B up q).toNat true)
/-- From all open points of one side. -/
def pi (A B : List Int) (st : List Bool × Bool) : Nat → Option (List Bool × Bool)
  | 0 => some st
  | k + 1 => match pi A B st k with
    | none => none
    | some (mt, gd) => if mt.getD k true = true ∨ A.getD k 0 ≠ (k : Int) then some (mt, gd) else
      match pwk A B 9 k false mt with
      | none => none
      | some (m', g) => some (m', gd && g)
/-- Both sides. -/
def psd (n : Nat) (o1 o2 : List Int) : Nat → Option (List Int × List Int × List Bool × Bool)
  | 0 => some (o1, o2, f8, true)
  | j + 1 => match psd n o1 o2 j with
    | none => none
    | some (A, B, mt, gd) => match pi A B (mt, gd) n with
      | none => none
      | some (m', g') => some (B, A, m', g')
/-- Round a loop. -/
def lw (A B : List Int) : Nat → Nat → List Bool → Option (List Bool)
  | 0, _, _ => none
  | f + 1, q, mt => if mt.getD q true = true then some mt else lw A B f (B.getD (A.getD q 0).toNat 0).toNat ((mt.set q true).set (A.getD q 0).toNat true)
/-- All loops. -/
def pl2 (A B : List Int) (mt : List Bool) : Nat → Option (List Bool × Nat)
  | 0 => some (mt, 0)
  | k + 1 => match pl2 A B mt k with
    | none => none
    | some (m, l) => if m.getD k true = true then some (m, l) else match lw A B 9 k m with
      | none => none
      | some m' => some (m', l + 1)
theorem pw_exit {A B : List Int} {f q : Nat} {u : Bool} {mt mE : List Bool} {gE : Bool} (h : pwk A B (f + 1) q u mt = some (mE, gE)) (c : nx A B u q = (q : Int)) : mE = mt.set q true ∧ gE = !u := by
  rw [pwk, if_pos c] at h
  simp only [Option.some.injEq, Prod.mk.injEq] at h
  exact ⟨h.1.symm, h.2.symm⟩
theorem pw_next {A B : List Int} {f q p : Nat} {u : Bool} {mt mE : List Bool} {gE : Bool} (h : pwk A B (f + 1) q u mt = some (mE, gE)) (hp : nx A B u q = (p : Int)) (c : p ≠ q) : pwk A B f p (!u) ((mt.set q true).set p true) = some (mE, gE) := by
  rw [pwk, if_neg (by rw [hp]; omega), hp, Int.toNat_natCast] at h
  exact h
theorem lw_exit {A B : List Int} {f q : Nat} {m mE : List Bool} (h : lw A B (f + 1) q m = some mE) (c : m.getD q true = true) : mE = m := by
  rw [lw, if_pos c] at h
  exact (Option.some.inj h).symm
theorem lw_next {A B : List Int} {f q p r : Nat} {m mE : List Bool} (h : lw A B (f + 1) q m = some mE) (c : ¬ m.getD q true = true) (hp : A.getD q 0 = (p : Int)) (hr : B.getD p 0 = (r : Int)) : lw A B f r ((m.set q true).set p true) = some mE := by
  rw [lw, if_neg c, hp, Int.toNat_natCast, hr, Int.toNat_natCast] at h
  exact h
theorem pw_pos {A B : List Int} {f q : Nat} {u : Bool} {m : List Bool} {r : List Bool × Bool} (h : pwk A B f q u m = some r) : ∃ f', f = f' + 1 := by
  cases f with
  | zero => cases h
  | succ f => exact ⟨f, rfl⟩
theorem lw_pos {A B : List Int} {f q : Nat} {m r : List Bool} (h : lw A B f q m = some r) : ∃ f', f = f' + 1 := by
  cases f with
  | zero => cases h
  | succ f => exact ⟨f, rfl⟩
theorem nat_of {o : List Int} (h : O8 o) (k : Nat) : ∃ p : Nat, o.getD k 0 = (p : Int) ∧ p < 8 :=
  ⟨(o.getD k 0).toNat, by have := h.2 k; omega, by have := h.2 k; omega⟩
theorem pi_skip {A B : List Int} {st : List Bool × Bool} {k : Nat} {mt : List Bool} {gd : Bool} (h : pi A B st k = some (mt, gd)) (c : mt.getD k true = true ∨ A.getD k 0 ≠ (k : Int)) : pi A B st (k + 1) = some (mt, gd) := by
  simp only [pi, h]; rw [if_pos c]
theorem pi_go {A B : List Int} {st : List Bool × Bool} {k : Nat} {mt : List Bool} {gd : Bool} (h : pi A B st k = some (mt, gd)) (c : ¬ (mt.getD k true = true ∨ A.getD k 0 ≠ (k : Int))) {m' : List Bool} {g : Bool} (hp : pwk A B 9 k false mt = some (m', g)) : pi A B st (k + 1) = some (m', gd && g) := by
  simp only [pi, h]; rw [if_neg c, hp]
theorem pi_def {A B : List Int} {st : List Bool × Bool} {n : Nat} {r : List Bool × Bool} (h : pi A B st n = some r) : ∀ k, k ≤ n → ∃ r', pi A B st k = some r' := by
  induction n generalizing r with
  | zero => intro k hk; have : k = 0 := by omega
            subst this; exact ⟨_, h⟩
  | succ n ih =>
    intro k hk
    by_cases e : k = n + 1
    · subst e; exact ⟨_, h⟩
    · cases hp : pi A B st n with
      | none => simp only [pi, hp] at h; cases h
      | some q => exact ih hp k (by omega)
theorem pi_pw {A B : List Int} {st : List Bool × Bool} {n : Nat} {r : List Bool × Bool} (hn : pi A B st n = some r) {k : Nat} (hk : k < n) {mt : List Bool} {gd : Bool} (h : pi A B st k = some (mt, gd)) (c : ¬ (mt.getD k true = true ∨ A.getD k 0 ≠ (k : Int))) : ∃ m' g, pwk A B 9 k false mt = some (m', g) := by
  obtain ⟨r', h'⟩ := pi_def hn (k + 1) hk
  cases hp : pwk A B 9 k false mt with
  | none => simp only [pi, h] at h'; rw [if_neg c, hp] at h'; cases h'
  | some q => exact ⟨q.1, q.2, rfl⟩
theorem pl_skip {A B : List Int} {m0 m : List Bool} {k l : Nat} (h : pl2 A B m0 k = some (m, l)) (c : m.getD k true = true) : pl2 A B m0 (k + 1) = some (m, l) := by
  simp only [pl2, h]; rw [if_pos c]
theorem pl_go {A B : List Int} {m0 m m' : List Bool} {k l : Nat} (h : pl2 A B m0 k = some (m, l)) (c : ¬ m.getD k true = true) (hp : lw A B 9 k m = some m') : pl2 A B m0 (k + 1) = some (m', l + 1) := by
  simp only [pl2, h]; rw [if_neg c, hp]
theorem pl_def {A B : List Int} {m0 : List Bool} {n : Nat} {r : List Bool × Nat} (h : pl2 A B m0 n = some r) : ∀ k, k ≤ n → ∃ r', pl2 A B m0 k = some r' := by
  induction n generalizing r with
  | zero => intro k hk; have : k = 0 := by omega
            subst this; exact ⟨_, h⟩
  | succ n ih =>
    intro k hk
    by_cases e : k = n + 1
    · subst e; exact ⟨_, h⟩
    · cases hp : pl2 A B m0 n with
      | none => simp only [pl2, hp] at h; cases h
      | some q => exact ih hp k (by omega)
theorem pl_lw {A B : List Int} {m0 : List Bool} {n : Nat} {r : List Bool × Nat} (hn : pl2 A B m0 n = some r) {k : Nat} (hk : k < n) {m : List Bool} {l : Nat} (h : pl2 A B m0 k = some (m, l)) (c : ¬ m.getD k true = true) : ∃ m', lw A B 9 k m = some m' := by
  obtain ⟨r', h'⟩ := pl_def hn (k + 1) hk
  cases hp : lw A B 9 k m with
  | none => simp only [pl2, h] at h'; rw [if_neg c, hp] at h'; cases h'
  | some q => exact ⟨q, rfl⟩
theorem psd_def {n : Nat} {o1 o2 : List Int} {r} (h : psd n o1 o2 2 = some r) (j : Nat) (hj : j < 2) {A B : List Int} {mt : List Bool} {gd : Bool} (hp : psd n o1 o2 j = some (A, B, mt, gd)) : ∃ m' g', pi A B (mt, gd) n = some (m', g') ∧ psd n o1 o2 (j + 1) = some (B, A, m', g') := by
  have hd : ∃ r', psd n o1 o2 (j + 1) = some r' := by
    have : j = 0 ∨ j = 1 := by omega
    rcases this with rfl | rfl
    · cases h1 : psd n o1 o2 1 with
      | none => simp only [psd] at h h1; rw [h1] at h; cases h
      | some q => exact ⟨q, rfl⟩
    · exact ⟨r, h⟩
  obtain ⟨r', hr⟩ := hd
  cases hq : pi A B (mt, gd) n with
  | none => simp only [psd, hp, hq] at hr; cases hr
  | some q => exact ⟨q.1, q.2, rfl, by simp only [psd, hp, hq]⟩
/-- Handing on a number, a list of numbers, a list of bools that stand written out. -/
def fI (x : Int) (k : Int → Bool) : Bool := if x = 0 then k 0 else if x = 1 then k 1 else if x = 2 then k 2 else if x = 3 then k 3 else if x = 4 then k 4 else if x = 5 then k 5 else if x = 6 then k 6 else if x = 7 then k 7 else if x = 8 then k 8 else if x = 9 then k 9 else if x = 10 then k 10 else if x = 11 then k 11 else if x = 12 then k 12 else if x = 13 then k 13 else if x = 14 then k 14 else if x = 15 then k 15 else k x
def fL : List Int → (List Int → Bool) → Bool
  | [], k => k []
  | x :: l, k => fI x fun x' => fL l fun l' => k (x' :: l')
def fB : List Bool → (List Bool → Bool) → Bool
  | [], k => k []
  | x :: l, k => if x = true then fB l fun l' => k (true :: l') else fB l fun l' => k (false :: l')
theorem ite_k {c x : Int} {k : Int → Bool} {r : Bool} (h : r = k x) : (if x = c then k c else r) = k x := by
  split
  · rename_i e; rw [e]
  · exact h
theorem fI_eq (x : Int) (k : Int → Bool) : fI x k = k x := by
  unfold fI
  repeat refine ite_k ?_
  rfl
theorem fL_eq : ∀ (l : List Int) (k : List Int → Bool), fL l k = k l
  | [], _ => rfl
  | x :: l, k => by rw [fL, fI_eq, fL_eq l]
theorem fB_eq : ∀ (l : List Bool) (k : List Bool → Bool), fB l k = k l
  | [], _ => rfl
  | x :: l, k => by
    rw [fB]
    cases x
    · rw [if_neg (by simp), fB_eq l]
    · rw [if_pos rfl, fB_eq l]
/-- How many lines go through the product of two diagrams. -/
def lnP (n : Nat) (es1 es2 : List Int) : Nat := ((List.range n).filter fun j : Nat => decide ((n : Int) ≤ eP n (mate es1) (mate es2) j)).length
def pairC (n : Nat) (o1 o2 es1 es2 : List Int) (mt : List Bool) (ca cb : Nat) : Bool :=
  match psd n o1 o2 2 with
  | none => false
  | some (A, B, m, gd) => match pl2 A B m n with
    | none => false
    | some (_, L) => (gd == (decide (lnP n es1 es2 = ca) && decide (lnP n es1 es2 = cb))) && decide ((L : Int) = (lps (mate es2) (vD n (mate es1)) mt n).2)
/-- The program's and the model's pairing are one. -/
def okP (n : Nat) (a b : List UInt8) : Bool :=
  match arcO a, arcO b with
  | some o1, some o2 => fL o1 fun o1 => fL o2 fun o2 => fL (dmS n o1 o1) fun es1 => fL (dmS n o2 o2) fun es2 => fB (metA n (mate es1) (mate es2)) fun mt => pairC n o1 o2 es1 es2 mt (a.count 124) (b.count 124)
  | _, _ => true
def okPs (n : Nat) (L M : List (List UInt8)) : Bool := L.all fun a => M.all fun b => okP n a b
theorem okP_of {n : Nat} {a b : List UInt8} {o1 o2 : List Int} (h : okP n a b = true) (h1 : arcO a = some o1) (h2 : arcO b = some o2) :
    pairC n o1 o2 (dmS n o1 o1) (dmS n o2 o2) (metA n (mate (dmS n o1 o1)) (mate (dmS n o2 o2))) (a.count 124) (b.count 124) = true := by
  unfold okP at h
  rw [h1, h2] at h
  simp only [fL_eq, fB_eq] at h
  exact h
end Go.Proofs.YtopenojociafaaaDoor
