/- A region that draws its order, by what each of its operations leaves behind: one look at each operation serves every order. -/
import Derived.Test.YtmcffhafonemeaaBase
import Derived.Orders
import Derived.Tactics
namespace Go.Proofs.Ytmcffhafonemeaa
section
variable {P : Program} {ops : Array Oper} {Q : Exit → Act → World → Prop}
/-- Where an operation lets go on, K; nothing else happens. -/
abbrev only (K : Act → World → Prop) : Exit → Act → World → Prop := Exit.then K fun _ _ _ => False
theorem wp_of_only {o : Oper} {a : Act} {w : World} {K K' : Act → World → Prop} (h : ∀ a w, K a w → K' a w) (hh : o.wp P a w K (only K)) : o.wp P a w K' Q := by
  unfold Oper.wp at *
  generalize (execOp a.eval o).run P w = r at *
  cases r with
  | ok n w' =>
    cases n <;> simp only [Oper.upon] at hh ⊢ <;>
      first
        | exact h _ _ hh
        | exact Calls.mono hh (fun e w'' he => by
            cases e <;> first | exact h _ _ he | exact (show False from he).elim | exact (show False by obtain ⟨_, _, x⟩ := he; exact x).elim)
        | exact Rows.mono hh (fun _ _ he => h _ _ he)
  | halt x w' => cases x <;> simp only [Oper.upon] at hh ⊢ <;> first | exact (show False from hh).elim | exact hh
theorem wpOp_of_list {i : Nat} {o : Oper} {a : Act} {w : World} {K K' : Act → World → Prop} (ho : ops[i]? = some o) (h : ∀ a w, K a w → K' a w) (hh : wpList P ops (only K) [o] a w) : wpOp P ops Q i K' a w := by
  unfold wpOp
  rw [ho]
  show if Region.wanted o (yielded ops a.tmps) = true then _ else _
  simp only [wpList] at hh
  split
  · rename_i hw
    rw [if_pos hw] at hh
    rcases hh with hh | ⟨_, _, _, x⟩
    · exact .inl (wp_of_only h hh)
    · exact (show False from x).elim
  · rename_i hw
    rw [if_neg hw] at hh
    exact h _ _ hh
/-- The operation waits for operation j. -/
def needs (o : Oper) (j : Nat) : Bool := o.after.any fun e => Region.binds .any e && e.on == j
/-- A property of each operation of a list, counted from k. -/
def AllOps (p : Nat → Oper → Prop) : Nat → List Oper → Prop
  | _, [] => True
  | k, o :: l => p k o ∧ AllOps p (k + 1) l
theorem AllOps.get {p : Nat → Oper → Prop} : ∀ (l : List Oper) (k i : Nat) (o : Oper), AllOps p k l → l[i]? = some o → p (k + i) o
  | [], _, _, _, _, h => by simp at h
  | x :: l, k, 0, o, h, e => by simp at e; subst e; exact h.1
  | x :: l, k, i + 1, o, h, e => by have := AllOps.get l (k + 1) i o h.2 (by simpa using e); rwa [Nat.add_assoc, Nat.add_comm 1 i] at this
theorem count_set {listed : Array Bool} {i : Nat} (hi : i < listed.size) (h : listed.getD i true = false) : (listed.setIfInBounds i true).toList.count false + 1 = listed.toList.count false := by
  obtain ⟨l⟩ := listed
  simp at hi h ⊢
  induction l generalizing i with
  | nil => simp at hi
  | cons b l ih =>
    cases i with
    | zero => simp at h; subst h; simp
    | succ i =>
      have := ih (i := i) (by simpa using hi) (by simpa using h)
      simp [List.count_cons]
      omega
/-- Operation j waits for operation i. -/
def waits (ops : Array Oper) (j i : Nat) : Bool := match ops[j]? with | some o => needs o i | none => false
theorem wpAny_facts (G : Act → World → Prop) (F : Nat → Act → World → Prop)
    (hs : ∀ i o, ops[i]? = some o → ∀ a w, G a w → (∀ j, needs o j = true → F j a w) → wpList P ops (only fun a' w' => G a' w' ∧ F i a' w' ∧ ∀ j, j ≠ i → waits ops j i = false → F j a w → F j a' w') [o] a w)
    (he : ∀ a w, G a w → (∀ i, i < ops.size → F i a w) → Q .normal a w) (hacyc : ∀ listed : Array Bool, listed.size = ops.size → Region.ready .any ops listed = [] → ∀ i, i < ops.size → listed.getD i false = true) :
    ∀ (fuel : Nat) (listed : Array Bool) (a : Act) (w : World), listed.size = ops.size → listed.toList.count false ≤ fuel → G a w → (∀ i, listed.getD i false = true → F i a w) →
      (∀ i j, listed.getD j false = true → waits ops j i = true → listed.getD i false = true) → wpAny P .any ops Q fuel listed a w := by
  intro fuel
  induction fuel with
  | zero =>
    intro listed a w hsz hc hG hF _
    have hr : Region.ready .any ops listed = [] := by
      cases hr : Region.ready .any ops listed with
      | nil => rfl
      | cons i l =>
        obtain ⟨h0, o, ho, _⟩ := mem_ready.1 (show i ∈ Region.ready .any ops listed by rw [hr]; simp)
        have hlt : i < ops.size := (Array.getElem?_eq_some_iff.1 ho).1
        have := count_set (by omega) h0
        omega
    exact ⟨hr, he _ _ hG fun i hi => hF i (hacyc listed hsz hr i hi)⟩
  | succ fuel ih =>
    intro listed a w hsz hc hG hF hcl
    refine ⟨fun hr => he _ _ hG fun i hi => hF i (hacyc listed hsz hr i hi), fun i hi => ?_⟩
    obtain ⟨h0, o, ho, hall⟩ := mem_ready.1 hi
    have hlt : i < ops.size := (Array.getElem?_eq_some_iff.1 ho).1
    have hcs := count_set (by omega) h0
    have hn0 : ∀ j, needs o j = true → listed.getD j false = true := by
      intro j hj
      unfold needs at hj
      obtain ⟨e, he', hb⟩ := Array.any_eq_true'.1 hj
      simp only [Bool.and_eq_true, beq_iff_eq] at hb
      have := hall e he' hb.1
      rwa [hb.2] at this
    refine wpOp_of_list ho ?_ (hs i o ho a w hG fun j hj => hF j (hn0 j hj))
    rintro a' w' ⟨hG', hFi, hFj⟩
    refine ih _ a' w' (by simp [hsz]) (by omega) hG' (fun j hj => ?_) fun k j hj hk => ?_
    · by_cases e : j = i
      · subst e; exact hFi
      · rw [getD_set_ne false (Ne.symm e)] at hj
        refine hFj j e ?_ (hF j hj)
        cases hw : waits ops j i with
        | false => rfl
        | true =>
          have := hcl i j hj hw
          have h1 : i < listed.size := by omega
          simp [h1] at h0 this
          rw [h0] at this
          cases this
    · by_cases e : j = i
      · subst e
        refine getD_set_true (hn0 k ?_)
        unfold waits at hk
        rwa [ho] at hk
      · rw [getD_set_ne false (Ne.symm e)] at hj
        exact getD_set_true (hcl k j hj hk)
/-- Each operation waits only for operations ahead of it. -/
def aheadB (l : List Oper) : Nat → Bool
  | k => match l with
    | [] => true
    | o :: l => o.after.all (fun e => !Region.binds .any e || decide (e.on < k)) && aheadB l (k + 1)
theorem ahead_get : ∀ (l : List Oper) (k i : Nat) (o : Oper), aheadB l k = true → l[i]? = some o → ∀ e ∈ o.after, Region.binds .any e = true → e.on < k + i
  | [], _, _, _, _, h => by simp at h
  | x :: l, k, 0, o, h, e => by
    simp at e; subst e
    simp only [aheadB, Bool.and_eq_true] at h
    intro e he hb
    have := Array.all_eq_true_iff_forall_mem.1 h.1 e he
    simpa [hb] using this
  | x :: l, k, i + 1, o, h, e => by
    simp only [aheadB, Bool.and_eq_true] at h
    have := ahead_get l (k + 1) i o h.2 (by simpa using e)
    intro e he hb; have := this e he hb; omega
theorem acyc {l : List Oper} (h : aheadB l 0 = true) (listed : Array Bool) (hsz : listed.size = l.toArray.size) (hr : Region.ready .any l.toArray listed = []) : ∀ i, i < l.toArray.size → listed.getD i false = true := by
  intro i
  induction i using Nat.strongRecOn with
  | _ i ih =>
    intro hi
    cases hb : listed.getD i false with
    | true => rfl
    | false =>
      exfalso
      have ho : l.toArray[i]? = some l.toArray[i] := Array.getElem?_eq_getElem hi
      have ho' : l[i]? = some l.toArray[i] := by rw [← ho]; simp
      have : i ∈ Region.ready .any l.toArray listed := by
        refine mem_ready.2 ⟨?_, _, ho, fun e he hbe => ?_⟩
        · have : i < listed.size := by omega
          simp [this] at hb ⊢; exact hb
        · have := ahead_get l 0 i _ h ho' e he hbe
          exact ih e.on (by omega) (by omega)
      rw [hr] at this
      cases this
theorem wp_region_facts {id : Nat} {a : Act} {w : World} {l : List Oper} (hm : P.follows .mixedOrders = true) (hah : aheadB l 0 = true) (G : Act → World → Prop) (F : Nat → Act → World → Prop)
    (h0 : G a { w with drawn := w.drawn + 1 })
    (hs : AllOps (fun i o => ∀ a w, G a w → (∀ j, needs o j = true → F j a w) → ∀ K : Act → World → Prop, (∀ a' w', G a' w' → F i a' w' → (∀ j, j ≠ i → waits l.toArray j i = false → F j a w → F j a' w') → K a' w') → wpList P l.toArray (only K) [o] a w) 0 l)
    (he : ∀ a w, G a w → (∀ i, i < l.length → F i a w) → Q .normal a w) : (Code.region id l.toArray true).wp P Q a w := by
  refine wp_region_any hm (wpAny_facts G F (fun i o ho => ?_) (fun a w hG hF => he a w hG fun i hi => hF i (by simpa using hi)) (acyc hah) _ _ _ _ (by simp) ?_ h0 (fun i hi => ?_) fun i j hj _ => ?_)
  · have := AllOps.get l 0 i o hs (by simpa using ho)
    rw [Nat.zero_add] at this
    exact fun a w hG hd => this a w hG hd _ fun a' w' h1 h2 h3 => ⟨h1, h2, h3⟩
  · simp
  · rw [Array.getD_eq_getD_getElem?, Array.getElem?_replicate] at hi
    split at hi <;> simp at hi
  · rw [Array.getD_eq_getD_getElem?, Array.getElem?_replicate] at hj
    split at hj <;> simp at hj
theorem AllOps.cons {p : Nat → Oper → Prop} {k : Nat} {o : Oper} {l : List Oper} (h : p k o) (h' : AllOps p (k + 1) l) : AllOps p k (o :: l) := ⟨h, h'⟩
theorem AllOps.nil {p : Nat → Oper → Prop} {k : Nat} : AllOps p k [] := trivial
theorem waits_no {p : Prop} {i j : Nat} (h : waits ops j i = false) (h' : waits ops j i = true) : p := by rw [h] at h'; cases h'
/-- What a slot holds. -/
def sl (a : Act) (i : Nat) : Value := a.tmps.toList.getD i undef
end
end Go.Proofs.Ytmcffhafonemeaa
