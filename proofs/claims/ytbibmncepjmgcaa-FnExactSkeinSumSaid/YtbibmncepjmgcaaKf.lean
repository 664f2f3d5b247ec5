/- A region that draws its order and makes memory at its end: what only reads, in every world that keeps some facts, is read first; then come operations that keep these facts; then the rest, in one forced order. A region that draws its order and makes memory: steps of two kinds, one after the other: what only reads in every world that keeps some facts, wherever it comes; and what keeps these facts, in a forced order; then the rest, in one forced order. Slices of terms that the call has made: read, cut, appended to. Elements of no terms, and of one. -/
import Derived.Test.YtbibmncepjmgcaaKc
import Derived.StillTail
import Derived.OrdersHeld
import Derived.Test.YtbibmncepjmgcaaKd
import Derived.Maps.AppendAt
import Derived.Test.YtbibmncepjmgcaaKa
namespace Go.Proofs.Ytbibmncepjmgcaa
section
variable {P : Program} {ops : Array Oper} {md : Region.Mode} {S : World → Prop}
/-- No other way out. -/
abbrev QF : Exit → Act → World → Prop := fun _ _ _ => False
theorem noOut : ¬ LetsOut QF := fun ⟨_, _, h⟩ => h
theorem wp_of_QF {o : Oper} {a : Act} {w : World} {K : Act → World → Prop} {Q : Exit → Act → World → Prop} (hh : o.wp P a w K QF) : o.wp P a w K Q := by
  unfold Oper.wp at *
  generalize (execOp a.eval o).run P w = r at *
  cases r with
  | ok n w' =>
    cases n <;> simp only [Oper.upon] at hh ⊢ <;>
      first
        | exact hh
        | exact Calls.mono hh (fun e w'' he => by
            cases e <;> first | exact he | exact (show False from he).elim | exact (noOut he).elim)
        | exact Rows.mono hh (fun _ _ he => he)
  | halt x w' => cases x <;> simp only [Oper.upon] at hh ⊢ <;> first | exact (show False from hh).elim | exact hh
theorem wpOp_of_QF {i : Nat} {a : Act} {w : World} {K : Act → World → Prop} {Q : Exit → Act → World → Prop} (hh : wpOp P ops QF i K a w) : wpOp P ops Q i K a w := by
  unfold wpOp at *
  split
  · rename_i ho; simp only [ho] at hh; exact hh
  · rename_i o ho
    simp only [ho] at hh
    split
    · rename_i hw
      simp only [hw, if_true] at hh
      rcases hh with hh | ⟨_, h1⟩
      · exact .inl (wp_of_QF hh)
      · exact (noOut h1).elim
    · rename_i hw; simp only [hw] at hh; exact hh
/-- The operation gives v in every world that meets S. -/
def YieldsC (P : Program) (ops : Array Oper) (S : World → Prop) (o : Oper) (v : Value) (a : Act) : Prop := ∀ w, S w → YieldsAt P ops w o v a
theorem YieldsC.of_same {o : Oper} {v : Value} {a a' : Act} (hy : YieldsC P ops S o v a) (he : execOp a'.eval o = execOp a.eval o)
    (hw : Region.wanted o (yielded ops a'.tmps) = Region.wanted o (yielded ops a.tmps)) : YieldsC P ops S o v a' := fun w hS => (hy w hS).of_same he hw
theorem YieldsC.wpOp {i : Nat} {o : Oper} {v : Value} {a : Act} (hi : ops[i]? = some o) (hy : YieldsC P ops S o v a)
    {K : Act → World → Prop} {w : World} (hS : S w) (h : K (a.put o.dst v) w) : wpOp P ops QF i K a w := by
  have := hy w hS
  unfold Go.wpOp
  simp only [hi]
  rcases this with ⟨hw, hv | ⟨hv, rfl⟩ | ⟨f, args, hv, hc⟩⟩ | ⟨hw, rfl⟩
  · simp only [hw, if_true, Oper.wp, hv, Oper.upon]; exact .inl h
  · simp only [hw, if_true, Oper.wp, hv, Oper.upon]; exact .inl h
  · simp only [hw, if_true, Oper.wp, hv, Oper.upon]
    refine .inl (hc.mono ?_)
    rintro e w' ⟨rfl, rfl⟩
    exact h
  · simp only [hw, Bool.false_eq_true, if_false]; exact h
theorem wpOp_putC {j : Nat} {oi oj : Oper} {v : Value} (hj : ops[j]? = some oj) (hap : oi.apart ops oj = true)
    (hsi : ∀ cs b, oi.op ≠ .select cs b) (hsj : ∀ cs b, oj.op ≠ .select cs b) {K : Act → World → Prop} {a : Act} {w : World}
    (hy : YieldsC P ops S oi v a) (h : wpOp P ops QF j K (a.put oi.dst v) w) :
    wpOp P ops QF j (fun a' w' => YieldsC P ops S oi v a' ∧ K (a'.put oi.dst v) w') a w := by
  obtain ⟨h1, h2, h3⟩ := Oper.apart_spec hap
  have keep : ∀ (a : Act), YieldsC P ops S oi v a → ∀ u, YieldsC P ops S oi v (a.put oj.dst u) := fun a hy u =>
    hy.of_same (execOp_put oi hsi a oj.dst u h3) (wanted_put oi a oj.dst u h3)
  have keepD : ∀ d, YieldsC P ops S oi v { a with defers := d :: a.defers } := fun d => hy.of_same rfl rfl
  unfold wpOp at *
  simp only [hj] at *
  rw [wanted_put oj a oi.dst v h1] at h
  split
  · rename_i hw
    simp only [hw, if_true] at h
    rcases h with h | ⟨_, hlets⟩
    case inr => exact (noOut hlets).elim
    refine .inl ?_
    unfold Oper.wp at *
    rw [execOp_put oj hsj a oi.dst v h1] at h
    generalize (execOp a.eval oj).run P w = r at *
    cases r with
    | ok n w' =>
      cases n <;> simp only [Oper.upon] at h ⊢
      case value u => exact ⟨keep a hy u, by rw [← Act.put_comm a v u h2]; exact h⟩
      case skip => exact ⟨keep a hy _, by rw [← Act.put_comm a v undef h2]; exact h⟩
      case defer d =>
        refine ⟨keep _ (keepD d) _, ?_⟩
        rw [← Act.put_comm _ v undef h2, ← Act.put_defers]
        exact h
      case enter f args =>
        refine Calls.mono h fun e w'' he => ?_
        cases e with
        | returned u => exact ⟨keep a hy u, by rw [← Act.put_comm a v u h2]; exact he⟩
        | panicked c => exact (show False from he).elim
        | outgrown => exact (noOut he).elim
      case row row args => exact Rows.mono h fun u w'' he => ⟨keep a hy u, by rw [← Act.put_comm a v u h2]; exact he⟩
    | halt x w' =>
      cases x <;> simp only [Oper.upon] at h ⊢
      case panic u => exact (show False from h).elim
  · rename_i hw
    simp only [hw] at h
    exact ⟨keep a hy _, by rw [← Act.put_comm a v undef h2]; exact h⟩
/-- The first m operations, in whatever order; behind each of them S. -/
def wpAnyM (P : Program) (md : Region.Mode) (ops : Array Oper) (S : World → Prop) (m : Nat) (L : Array Bool → Act → World → Prop) : Nat → Array Bool → Act → World → Prop
  | 0, listed, a, w => L listed a w
  | f + 1, listed, a, w => Region.ready md ops listed ≠ [] ∧ ∀ i ∈ Region.ready md ops listed, i < m ∧ wpOp P ops QF i (fun a' w' => S w' ∧ wpAnyM P md ops S m L f (listed.setIfInBounds i true) a' w') a w
theorem wpAny_of_M {m g : Nat} {L : Array Bool → Act → World → Prop} {Q : Exit → Act → World → Prop} (hL : ∀ listed a w, L listed a w → wpAny P md ops Q g listed a w) :
    ∀ (f : Nat) (listed : Array Bool) (a : Act) (w : World), wpAnyM P md ops S m L f listed a w → wpAny P md ops Q (f + g) listed a w
  | 0, listed, a, w, h => by rw [Nat.zero_add]; exact hL _ _ _ h
  | f + 1, listed, a, w, h => by
    rw [show f + 1 + g = (f + g) + 1 by omega]
    exact ⟨fun h0 => absurd h0 h.1, fun i hi => wpOp_of_QF (wpOp_mono (fun a' w' h' => wpAny_of_M hL f _ a' w' h'.2) (h.2 i hi).2)⟩
theorem wpAnyM_first {m i : Nat} {oi : Oper} {v : Value} {L : Array Bool → Act → World → Prop} (hi : ops[i]? = some oi) (hsel : ∀ (j : Nat) (o : Oper) cs b, ops[j]? = some o → o.op ≠ .select cs b)
    (hs : Region.sinkB md ops m = true) (hc : Region.chainB md ops m = true) (hn : m < ops.size) (him : i < m)
    (hdone : ∀ listed a w, L listed a w → ∀ j ∈ Region.ready md ops listed, m ≤ j) :
    ∀ (f : Nat) (listed : Array Bool) (a : Act) (w : World), HeadInv md ops m listed →
      (∀ j oj, ops[j]? = some oj → j ≠ i → listed.getD j true = false → (∀ e ∈ oj.after, Region.binds md e = true → e.on ≠ i) → oi.apart ops oj = true) →
      i ∈ Region.ready md ops listed → YieldsC P ops S oi v a → S w →
      wpAnyM P md ops S m L f (listed.setIfInBounds i true) (a.put oi.dst v) w → wpAnyM P md ops S m L (f + 1) listed a w := by
  intro f
  induction f with
  | zero =>
    intro listed a w inv _ hr hy hS H
    have hun := (mem_ready.1 hr).1
    refine ⟨fun h => (by rw [h] at hr; cases hr), fun j hj => ?_⟩
    have hjm : j < m := by
      rcases Nat.lt_or_ge j m with h | h
      · exact h
      · exact absurd hj (tail_waits hs hc hn inv _ i rfl him hun j h)
    refine ⟨hjm, ?_⟩
    by_cases hji : j = i
    · subst hji; exact hy.wpOp hi hS ⟨hS, H⟩
    · have := hdone _ _ _ H j (ready_mono hj hji)
      omega
  | succ f ih =>
    intro listed a w inv hfree hr hy hS H
    have hun := (mem_ready.1 hr).1
    refine ⟨fun h => (by rw [h] at hr; cases hr), fun j hj => ?_⟩
    have hjm : j < m := by
      rcases Nat.lt_or_ge j m with h | h
      · exact h
      · exact absurd hj (tail_waits hs hc hn inv _ i rfl him hun j h)
    refine ⟨hjm, ?_⟩
    by_cases hji : j = i
    · subst hji; exact hy.wpOp hi hS ⟨hS, H⟩
    · have h1 := (H.2 j (ready_mono hj hji)).2
      obtain ⟨hjun, oj, hoj, hall⟩ := mem_ready.1 hj
      have hnot : ∀ e ∈ oj.after, Region.binds md e = true → e.on ≠ i := fun e he hb heq => by
        have h1 := hall e he hb
        rw [heq, getD_both hun] at h1
        cases h1
      have h2 := wpOp_putC hoj (hfree j oj hoj hji hjun hnot) (fun cs b => hsel i oi cs b hi) (fun cs b => hsel j oj cs b hoj) hy h1
      have hfree' : ∀ k ok, ops[k]? = some ok → k ≠ i → (listed.setIfInBounds j true).getD k true = false →
          (∀ e ∈ ok.after, Region.binds md e = true → e.on ≠ i) → oi.apart ops ok = true := fun k ok hk hki hun hno => by
        refine hfree k ok hk hki ?_ hno
        by_cases hjk : j = k
        · subst hjk; exact hjun
        · rw [getD_set_ne true hjk] at hun; exact hun
      refine wpOp_mono (fun a' w' h3 => ⟨h3.2.1, ih (listed.setIfInBounds j true) a' w' (inv.set hj hjm) hfree' (ready_mono hr (Ne.symm hji)) h3.1 h3.2.1 ?_⟩) h2
      rw [Array.setIfInBounds_comm _ _ hji]
      exact h3.2.2
/-- Each of the readers in turn, in every world that meets S. -/
def wpOn (P : Program) (ops : Array Oper) (S : World → Prop) (Q : Act → Prop) : List Oper → Act → Prop
  | [], a => Q a
  | o :: rest, a => ∃ a1 : Act, (∀ w, S w → ∀ K : Act → Prop, K a1 → if Region.wanted o (yielded ops a.tmps) then o.still P a w K else K (a.put o.dst undef)) ∧ wpOn P ops S Q rest a1
/-- Each of the keepers in turn. -/
def wpMid (P : Program) (ops : Array Oper) (S : World → Prop) (Q : Act → World → Prop) : List Oper → Act → World → Prop
  | [], a, w => Q a w
  | o :: rest, a, w => ∀ K : Act → World → Prop, (∀ a' w', S w' → wpMid P ops S Q rest a' w' → K a' w') → wpList P ops (only K) [o] a w
theorem wpOp_of_list' {i : Nat} {o : Oper} {a : Act} {w : World} {K : Act → World → Prop} (ho : ops[i]? = some o) (hh : wpList P ops (only K) [o] a w) : wpOp P ops QF i K a w :=
  wpOp_of_list ho (fun _ _ h => h) hh
/-- The operation of a number. -/
def opN (ops : Array Oper) (k : Nat) : Oper := ops.toList.getD k ⟨none, .ready 0, 0, "", #[], none⟩
def seqI (md : Region.Mode) (ops : Array Oper) (g m : Nat) : List Nat → Array Bool → Bool
  | [], listed => Region.seqB md ops g m listed
  | k :: ks, listed => decide (Region.ready md ops listed = [k]) && decide (k < m) && seqI md ops g m ks (listed.setIfInBounds k true)
def headI (md : Region.Mode) (ops : Array Oper) (g m : Nat) (ms : List Nat) : List Nat → Array Bool → Bool
  | [], listed => seqI md ops g m ms listed
  | k :: ks, listed => (Region.ready md ops listed).contains k && Region.free md ops listed k && decide (k < m) && headI md ops g m ms ks (listed.setIfInBounds k true)
theorem opN_get {k m : Nat} (h : k < m) (hm : m < ops.size) : ops[k]? = some (opN ops k) := by
  unfold opN
  rw [List.getD_eq_getElem?_getD]
  have : k < ops.size := by omega
  simp [this]
theorem wpAnyM_mid {m g : Nat} {L : Act → World → Prop} (hn : m < ops.size) : ∀ (l : List Nat) (listed : Array Bool) (a : Act) (w : World),
    seqI md ops g m l listed = true → S w → wpMid P ops S L (l.map (opN ops)) a w →
    wpAnyM P md ops S m (fun listed' a' w' => Region.seqB md ops g m listed' = true ∧ L a' w') l.length listed a w
  | [], listed, a, w, hB, _, h => ⟨hB, h⟩
  | k :: l, listed, a, w, hB, hS, h => by
    simp only [seqI, Bool.and_eq_true, decide_eq_true_eq] at hB
    obtain ⟨⟨hr, hk⟩, hB'⟩ := hB
    refine ⟨fun h1 => (by rw [hr] at h1; cases h1), fun i hi => ?_⟩
    rw [hr] at hi
    have hik : i = k := by simpa using hi
    subst hik
    refine ⟨hk, wpOp_of_list' (opN_get hk hn) (h _ fun a' w' hS' h' => ⟨hS', ?_⟩)⟩
    exact wpAnyM_mid hn l _ a' w' hB' hS' h'
/-- The operation has a slot of its own in a frame of N. -/
def dstB (N : Nat) (o : Oper) : Bool := match o.dst with | some d => decide (d < N) | none => false
theorem yieldsC_of_on {o : Oper} {a a1 : Act} (w0 : World) (hw0 : S w0) (hd : dstB a.tmps.size o = true) (h : ∀ w, S w → ∀ K : Act → Prop, K a1 → if Region.wanted o (yielded ops a.tmps) then o.still P a w K else K (a.put o.dst undef)) :
    ∃ v, YieldsC P ops S o v a ∧ a.put o.dst v = a1 := by
  have key : ∀ w, S w → ∃ v, YieldsAt P ops w o v a ∧ a.put o.dst v = a1 := fun w hS => by
    have h' := h w hS (· = a1) rfl
    by_cases hw : Region.wanted o (yielded ops a.tmps) = true
    · rw [if_pos hw] at h'
      unfold Oper.still at h'
      generalize hr : (execOp a.eval o).run P w = r at h'
      cases r with
      | ok n w' =>
        cases n <;> simp only [Oper.stillUpon] at h'
        case value u => obtain ⟨rfl, h2⟩ := h'; exact ⟨u, .inl ⟨hw, .inl hr⟩, h2⟩
        case skip => obtain ⟨rfl, h2⟩ := h'; exact ⟨undef, .inl ⟨hw, .inr (.inl ⟨hr, rfl⟩)⟩, h2⟩
        case enter f args => obtain ⟨rfl, v, hc, h2⟩ := h'; exact ⟨v, .inl ⟨hw, .inr (.inr ⟨f, args, hr, hc⟩)⟩, h2⟩
      | halt x w' => simp only [Oper.stillUpon] at h'
    · rw [if_neg hw] at h'
      exact ⟨undef, .inr ⟨by simpa using hw, rfl⟩, h'⟩
  obtain ⟨v, hv, he⟩ := key w0 hw0
  refine ⟨v, fun w hS => ?_, he⟩
  obtain ⟨v', hv', he'⟩ := key w hS
  have : v' = v := by
    unfold dstB at hd
    cases hq : o.dst with
    | none => rw [hq] at hd; cases hd
    | some d =>
      rw [hq] at hd
      have hlt : d < a.tmps.size := by simpa using hd
      have e : (a.put o.dst v').tmps[d]? = (a.put o.dst v).tmps[d]? := by rw [he, he']
      rw [hq] at e
      simpa [Act.put, hlt] using e
  rw [← this]; exact hv'
theorem put_size (a : Act) (d : Option Tmp) (v : Value) : (a.put d v).tmps.size = a.tmps.size := by
  unfold Act.put; split <;> simp
theorem wpAnyM_on {m g N : Nat} {L : Act → World → Prop} {ms : List Nat} (hsel : Region.noSelect ops = true) (hs : Region.sinkB md ops m = true) (hc : Region.chainB md ops m = true) (hn : m < ops.size) :
    ∀ (l : List Nat) (listed : Array Bool) (a : Act) (w : World), HeadInv md ops m listed → a.tmps.size = N → (l.map (opN ops)).all (dstB N) = true →
    headI md ops g m ms l listed = true → (∀ j ∈ ms, j < m) → S w → wpOn P ops S (fun a' => ∀ w', S w' → wpMid P ops S L (ms.map (opN ops)) a' w') (l.map (opN ops)) a →
    wpAnyM P md ops S m (fun listed' a' w' => Region.seqB md ops g m listed' = true ∧ L a' w') (l.length + ms.length) listed a w
  | [], listed, a, w, _, _, _, hB, _, hS, h => by
    rw [List.length_nil, Nat.zero_add]
    exact wpAnyM_mid hn ms listed a w (by simpa [headI] using hB) hS (h w hS)
  | k :: l, listed, a, w, inv, hN, hD, hB, hms, hS, h => by
    simp only [headI, Bool.and_eq_true, decide_eq_true_eq] at hB
    obtain ⟨⟨⟨hr, hf⟩, hkm⟩, hB'⟩ := hB
    have h0 := opN_get hkm hn
    have hr' : k ∈ Region.ready md ops listed := by simpa using hr
    rw [List.map_cons, List.all_cons, Bool.and_eq_true] at hD
    obtain ⟨a1, h1, h2⟩ := h
    obtain ⟨v, hv, he⟩ := yieldsC_of_on w hS (by rw [hN]; exact hD.1) h1
    subst he
    rw [List.length_cons, show l.length + 1 + ms.length = (l.length + ms.length) + 1 by omega]
    exact wpAnyM_first h0 (Region.noSelect_spec hsel) hs hc hn hkm (fun listed' a' w' hL => seqB_ready hL.1) (l.length + ms.length) listed a w inv (Region.free_spec h0 hf) hr' hv hS
      (wpAnyM_on hsel hs hc hn l _ _ w (inv.set hr' hkm) (by rw [put_size]; exact hN) hD.2 hB' hms hS h2)
theorem wpOn_step {S : World → Prop} {Q : Act → Prop} {o : Oper} {rest : List Oper} {a : Act} (a1 : Act) (h1 : ∀ w, S w → ∀ K : Act → Prop, K a1 → if Region.wanted o (yielded ops a.tmps) then o.still P a w K else K (a.put o.dst undef)) (h2 : wpOn P ops S Q rest a1) : wpOn P ops S Q (o :: rest) a := ⟨a1, h1, h2⟩
theorem wpOn_nil {S : World → Prop} {Q : Act → Prop} {a : Act} (h : Q a) : wpOn P ops S Q [] a := h
theorem wpMid_step {S : World → Prop} {Q : Act → World → Prop} {o : Oper} {rest : List Oper} {a : Act} {w : World} (h : ∀ K : Act → World → Prop, (∀ a' w', S w' → wpMid P ops S Q rest a' w' → K a' w') → wpList P ops (only K) [o] a w) : wpMid P ops S Q (o :: rest) a w := h
theorem wpMid_nil {S : World → Prop} {Q : Act → World → Prop} {a : Act} {w : World} (h : Q a w) : wpMid P ops S Q [] a w := h
/-- The checks: readers, then keepers, all below m; then the rest. -/
def onB (ops : Array Oper) (N : Nat) (hs ms : List Nat) (m : Nat) : Bool :=
  Region.noSelect ops && decide (m < ops.size) && decide (hs.length + ms.length = m) && Region.sinkB .any ops m && Region.chainB .any ops m && (hs.map (opN ops)).all (dstB N) && ms.all (fun k => decide (k < m)) && headI .any ops (ops.size - m) m ms hs (Array.replicate ops.size false)
theorem wp_region_on {id : Nat} {Q : Exit → Act → World → Prop} {a : Act} {w : World} {l : List Oper} (S : World → Prop) (hs ms : List Nat) (m : Nat) (hm : P.follows .mixedOrders = true) (hB : onB l.toArray a.tmps.size hs ms m = true)
    (hS : S { w with drawn := w.drawn + 1 })
    (h : wpOn P l.toArray S (fun a' => ∀ w', S w' → wpMid P l.toArray S (fun a2 w2 => wpList P l.toArray Q (l.drop m) a2 w2) (ms.map (opN l.toArray)) a' w') (hs.map (opN l.toArray)) a) : (Code.region id l.toArray true).wp P Q a w := by
  simp only [onB, Bool.and_eq_true, decide_eq_true_eq] at hB
  obtain ⟨⟨⟨⟨⟨⟨⟨hsel, hn⟩, hlen⟩, hsk⟩, hc⟩, hD⟩, hms⟩, hlex⟩ := hB
  have hdl : (l.drop m).length = l.toArray.size - m := by simp
  have inv0 : HeadInv .any l.toArray m (Array.replicate l.toArray.size false) :=
    ⟨by simp, fun j oj _ hl => (by rw [getD_replicate_false] at hl; cases hl), fun t _ ht => getD_in (by simpa using ht) (getD_replicate_false _ _)⟩
  have H := wpAnyM_on (md := .any) (g := l.toArray.size - m) (m := m) (N := a.tmps.size) (ms := ms) hsel hsk hc hn hs _ a _ inv0 rfl hD hlex (fun j hj => by
    have := List.all_eq_true.1 hms j hj; simpa using this) hS h
  refine wp_region_any hm ?_
  have := wpAny_of_M (Q := Q) (g := l.toArray.size - m) (fun listed a' w' hL => by
    have := wpAny_of_seq (md := .any) (Q' := Q) (l.drop m) m listed a' w' (fun j => by simp [List.getElem?_drop]) (by rw [hdl]; exact hL.1) hL.2
    rwa [hdl] at this) _ _ _ _ H
  rw [hlen, show m + (l.toArray.size - m) = l.toArray.size by omega] at this
  exact this
theorem opN_zero (o : Oper) (l : List Oper) : opN (o :: l).toArray 0 = o := rfl
theorem opN_succ (o : Oper) (l : List Oper) (k : Nat) : opN (o :: l).toArray (k + 1) = opN l.toArray k := rfl
end
end Go.Proofs.Ytbibmncepjmgcaa
namespace Go.Proofs.Ytbibmncepjmgcaa
section
variable {P : Program} {ops : Array Oper} {md : Region.Mode} {S : World → Prop}
/-- The steps: true: a reader; false: a keeper. -/
def stepI (md : Region.Mode) (ops : Array Oper) (g m : Nat) : List (Bool × Nat) → Array Bool → Bool
  | [], listed => Region.seqB md ops g m listed
  | (true, k) :: ks, listed => (Region.ready md ops listed).contains k && Region.free md ops listed k && decide (k < m) && stepI md ops g m ks (listed.setIfInBounds k true)
  | (false, k) :: ks, listed => decide (Region.ready md ops listed = [k]) && decide (k < m) && stepI md ops g m ks (listed.setIfInBounds k true)
def wpSt (P : Program) (ops : Array Oper) (S : World → Prop) (Q : Act → World → Prop) : List (Bool × Oper) → Act → World → Prop
  | [], a, w => Q a w
  | (true, o) :: rest, a, w => ∃ a1 : Act, (∀ w, S w → ∀ K : Act → Prop, K a1 → if Region.wanted o (yielded ops a.tmps) then o.still P a w K else K (a.put o.dst undef)) ∧ wpSt P ops S Q rest a1 w
  | (false, o) :: rest, a, w => ∀ K : Act → World → Prop, (∀ a' w', S w' → a'.tmps.size = a.tmps.size → wpSt P ops S Q rest a' w' → K a' w') → wpList P ops (only K) [o] a w
def opS' (ops : Array Oper) (q : Bool × Nat) : Bool × Oper := (q.1, opN ops q.2)
theorem wpAnyM_st {m g N : Nat} {L : Act → World → Prop} (hsel : Region.noSelect ops = true) (hs : Region.sinkB md ops m = true) (hc : Region.chainB md ops m = true) (hn : m < ops.size) :
    ∀ (l : List (Bool × Nat)) (listed : Array Bool) (a : Act) (w : World), HeadInv md ops m listed → a.tmps.size = N → l.all (fun q => !q.1 || dstB N (opN ops q.2)) = true →
    stepI md ops g m l listed = true → S w → wpSt P ops S L (l.map (opS' ops)) a w →
    wpAnyM P md ops S m (fun listed' a' w' => Region.seqB md ops g m listed' = true ∧ L a' w') l.length listed a w
  | [], listed, a, w, _, _, _, hB, _, h => ⟨hB, h⟩
  | (true, k) :: l, listed, a, w, inv, hN, hD, hB, hS, h => by
    simp only [stepI, Bool.and_eq_true, decide_eq_true_eq] at hB
    obtain ⟨⟨⟨hr, hf⟩, hkm⟩, hB'⟩ := hB
    have h0 := opN_get hkm hn
    have hr' : k ∈ Region.ready md ops listed := by simpa using hr
    rw [List.all_cons, Bool.and_eq_true] at hD
    obtain ⟨a1, h1, h2⟩ := h
    obtain ⟨v, hv, he⟩ := yieldsC_of_on w hS (by rw [hN]; simpa using hD.1) h1
    subst he
    exact wpAnyM_first h0 (Region.noSelect_spec hsel) hs hc hn hkm (fun listed' a' w' hL => seqB_ready hL.1) l.length listed a w inv (Region.free_spec h0 hf) hr' hv hS
      (wpAnyM_st hsel hs hc hn l _ _ w (inv.set hr' hkm) (by rw [put_size]; exact hN) hD.2 hB' hS h2)
  | (false, k) :: l, listed, a, w, inv, hN, hD, hB, hS, h => by
    simp only [stepI, Bool.and_eq_true, decide_eq_true_eq] at hB
    obtain ⟨⟨hr, hk⟩, hB'⟩ := hB
    rw [List.all_cons, Bool.and_eq_true] at hD
    refine ⟨fun h1 => (by rw [hr] at h1; cases h1), fun i hi => ?_⟩
    have hi' := hi
    rw [hr] at hi
    have hik : i = k := by simpa using hi
    subst hik
    refine ⟨hk, wpOp_of_list' (opN_get hk hn) (h _ fun a' w' hS' hsz h' => ⟨hS', ?_⟩)⟩
    exact wpAnyM_st hsel hs hc hn l _ a' w' (inv.set hi' hk) (hsz.trans hN) hD.2 hB' hS' h'
theorem wpSt_read {S : World → Prop} {Q : Act → World → Prop} {o : Oper} {rest : List (Bool × Oper)} {a : Act} {w : World} (a1 : Act) (h1 : ∀ w, S w → ∀ K : Act → Prop, K a1 → if Region.wanted o (yielded ops a.tmps) then o.still P a w K else K (a.put o.dst undef)) (h2 : wpSt P ops S Q rest a1 w) : wpSt P ops S Q ((true, o) :: rest) a w := ⟨a1, h1, h2⟩
theorem wpSt_keep {S : World → Prop} {Q : Act → World → Prop} {o : Oper} {rest : List (Bool × Oper)} {a : Act} {w : World} (h : ∀ K : Act → World → Prop, (∀ a' w', S w' → a'.tmps.size = a.tmps.size → wpSt P ops S Q rest a' w' → K a' w') → wpList P ops (only K) [o] a w) : wpSt P ops S Q ((false, o) :: rest) a w := h
theorem wpSt_nil {S : World → Prop} {Q : Act → World → Prop} {a : Act} {w : World} (h : Q a w) : wpSt P ops S Q [] a w := h
def stB (ops : Array Oper) (N : Nat) (st : List (Bool × Nat)) (m : Nat) : Bool :=
  Region.noSelect ops && decide (m < ops.size) && decide (st.length = m) && Region.sinkB .any ops m && Region.chainB .any ops m && st.all (fun q => !q.1 || dstB N (opN ops q.2)) && stepI .any ops (ops.size - m) m st (Array.replicate ops.size false)
theorem wp_region_st {id : Nat} {Q : Exit → Act → World → Prop} {a : Act} {w : World} {l : List Oper} (S : World → Prop) (st : List (Bool × Nat)) (m : Nat) (hm : P.follows .mixedOrders = true) (hB : stB l.toArray a.tmps.size st m = true)
    (hS : S { w with drawn := w.drawn + 1 })
    (h : wpSt P l.toArray S (fun a2 w2 => wpList P l.toArray Q (l.drop m) a2 w2) (st.map (opS' l.toArray)) a { w with drawn := w.drawn + 1 }) : (Code.region id l.toArray true).wp P Q a w := by
  simp only [stB, Bool.and_eq_true, decide_eq_true_eq] at hB
  obtain ⟨⟨⟨⟨⟨⟨hsel, hn⟩, hlen⟩, hsk⟩, hc⟩, hD⟩, hlex⟩ := hB
  have hdl : (l.drop m).length = l.toArray.size - m := by simp
  have inv0 : HeadInv .any l.toArray m (Array.replicate l.toArray.size false) :=
    ⟨by simp, fun j oj _ hl => (by rw [getD_replicate_false] at hl; cases hl), fun t _ ht => getD_in (by simpa using ht) (getD_replicate_false _ _)⟩
  have H := wpAnyM_st (md := .any) (g := l.toArray.size - m) (m := m) (N := a.tmps.size) hsel hsk hc hn st _ a _ inv0 rfl hD hlex hS h
  refine wp_region_any hm ?_
  have := wpAny_of_M (Q := Q) (g := l.toArray.size - m) (fun listed a' w' hL => by
    have := wpAny_of_seq (md := .any) (Q' := Q) (l.drop m) m listed a' w' (fun j => by simp [List.getElem?_drop]) (by rw [hdl]; exact hL.1) hL.2
    rwa [hdl] at this) _ _ _ _ H
  rw [hlen, show m + (l.toArray.size - m) = l.toArray.size by omega] at this
  exact this
theorem opS'_mk (l : List Oper) (b : Bool) (k : Nat) : opS' l.toArray (b, k) = (b, opN l.toArray k) := rfl
end
end Go.Proofs.Ytbibmncepjmgcaa
namespace Go.Proofs.Ytbibmncepjmgcaa
open Go.RowKit
set_option linter.unusedVariables false
def L16 (ts : List Tm) : Prop := ∀ t ∈ ts, t.2.1.length = 16
/-- Block g, one of the call's own, holds the terms, and has room behind them. -/
def MnT (w : World) (B g : Nat) (ts : List Tm) : Prop := B ≤ g ∧ ∃ sp : List Value, Own w g (tsl ts ++ sp).toArray 56
theorem MnT.lt {w : World} {B g : Nat} {ts : List Tm} (h : MnT w B g ts) : g < w.heap.size := by obtain ⟨_, sp, h⟩ := h; exact h.lt
theorem MnT.below {w w' : World} {B g D : Nat} {ts : List Tm} (h : MnT w B g ts) (hb : Below D w w') (hg : g < D) : MnT w' B g ts := by
  obtain ⟨h1, sp, h2⟩ := h
  exact ⟨h1, sp, h2.below hb hg⟩
theorem MnT.alloc {w : World} {B g : Nat} {ts : List Tm} (h : MnT w B g ts) (o : Obj) : MnT (w.alloc o) B g ts := by
  obtain ⟨h1, sp, h2⟩ := h
  exact ⟨h1, sp, h2.alloc o⟩
theorem MnT.weak {w : World} {B B' g : Nat} {ts : List Tm} (h : MnT w B g ts) (hb : B' ≤ B) : MnT w B' g ts := ⟨Nat.le_trans hb h.1, h.2⟩
theorem MnT.flat {w : World} {B g : Nat} {ts : List Tm} (h : MnT w B g ts) (i : Nat) (v : Value) (hv : (tsl ts)[i]? = some v) : w.cell? ⟨g, i, none⟩ = some v := by
  obtain ⟨_, sp, h2⟩ := h
  rw [h2.cell, List.getElem?_toArray, List.getElem?_append_left (List.getElem?_eq_some_iff.1 hv).1]
  exact hv
theorem tsl_drop (ts : List Tm) (h : L16 ts) (c : Nat) (hc : c ≤ ts.length) (i : Nat) : (tsl (ts.drop c))[i]? = (tsl ts)[c * 18 + i]? := by
  conv => rhs; rw [← List.take_append_drop c ts, tsl_app]
  have hl : (tsl (ts.take c)).length = 18 * c := by
    rw [tsl_len _ (fun t ht => h t (List.mem_of_mem_take ht)), List.length_take, Nat.min_eq_left hc]
  rw [List.getElem?_append_right (by omega), hl]
  congr 1; omega
theorem tsl_take (ts : List Tm) (c : Nat) (i : Nat) (v : Value) (hv : (tsl (ts.take c))[i]? = some v) : (tsl ts)[i]? = some v := by
  conv => lhs; rw [← List.take_append_drop c ts, tsl_app]
  rw [List.getElem?_append_left (List.getElem?_eq_some_iff.1 hv).1]
  exact hv
theorem tsl_term (ts : List Tm) (h : L16 ts) (k : Nat) (hk : k < ts.length) (j : Nat) (v : Value) (hv : (tcl (ts.getD k zT))[j]? = some v) : (tsl ts)[k * 18 + j]? = some v := by
  have hj : j < 18 := by
    have := (List.getElem?_eq_some_iff.1 hv).1
    have e : (ts.getD k zT).2.1.length = 16 := h _ (by rw [List.getD_eq_getElem?_getD, List.getElem?_eq_getElem hk]; exact List.getElem_mem hk)
    rw [tcl_len e] at this; exact this
  rw [Nat.mul_comm, tsl_get ts h k hk j hj, ← hv, List.getD_eq_getElem?_getD, List.getElem?_eq_getElem hk]
  rfl
theorem MnT.rd {w : World} {B g : Nat} {ts : List Tm} (h : MnT w B g ts) (h16 : L16 ts) : RdT w (some ⟨g, 0, none⟩) ts := by
  refine ⟨fun a e k hk j v hv => ?_, fun e => by cases e⟩
  cases e
  have := h.flat (k * 18 + j) v (tsl_term ts h16 k hk j v hv)
  rw [Addr.add_mid, Addr.add_mid, Nat.zero_add]
  exact this
/-- A slice of terms, as the laws on append see it. -/
def RowT (w : World) (base : Nat) (v : Value) (ts : List Tm) : Prop := w.ownsRow base 56 18 v ts.length (tsl ts)
theorem RowT.mn {w : World} {base : Nat} {v : Value} {ts : List Tm} (h : RowT w base v ts) (hv : v ≠ .slice none 0 0) : ∃ g cap, v = .slice (some ⟨g, 0, none⟩) ts.length cap ∧ ts.length ≤ cap ∧ MnT w base g ts := by
  obtain ⟨hl, ⟨h0, _⟩ | ⟨g, cap, cur, hv', hb, hh, hn, hc, hs, ht⟩⟩ := h
  · exact absurd h0 hv
  · refine ⟨g, cap, hv', hn, hb, cur.toList.drop (ts.length * 18), ?_⟩
    have : (tsl ts ++ cur.toList.drop (ts.length * 18)).toArray = cur := by
      rw [← ht, List.take_append_drop]
    rw [this]; exact hh
theorem RowT.blk {w : World} {base : Nat} {v : Value} {ts : List Tm} (h : RowT w base v ts) (k : Nat) (e : v.ownBlock = some k) : base ≤ k := by
  rcases h.2 with ⟨hv, _⟩ | ⟨g, cap, cur, hv, hb, _⟩
  · rw [hv] at e; cases e
  · rw [hv] at e; cases e; exact hb
theorem RowT.alloc {w : World} {base : Nat} {v : Value} {ts : List Tm} (h : RowT w base v ts) (o : Obj) : RowT (w.alloc o) base v ts :=
  World.ownsRow.kept h (World.grownBy_alloc w o none) (by cases v.ownBlock <;> simp)
theorem RowT.below {w w' : World} {base : Nat} {v : Value} {ts : List Tm} (h : RowT w base v ts) (hb : Below w.heap.size w w') : RowT w' base v ts := by
  obtain ⟨hl, ⟨h0, h1⟩ | ⟨g, cap, cur, hv', hbb, hh, hn, hc, hs, ht⟩⟩ := h
  · exact ⟨hl, .inl ⟨h0, h1⟩⟩
  · have hlt : g < w.heap.size := lt_of_block hh
    exact ⟨hl, .inr ⟨g, cap, cur, hv', hbb, by rw [hb.block g hlt]; exact hh, hn, hc, hs, ht⟩⟩
theorem RowT.new (w : World) (base : Nat) {n : Nat} (hn : w.heap.size = n) (hb : base ≤ n) : RowT (w.alloc (.cells #[] 56)) base (.slice (some ⟨n, 0, none⟩) 0 0) [] := by
  subst hn
  exact ⟨rfl, .inr ⟨w.heap.size, 0, #[], rfl, hb, Own.new _ _ _, Nat.le_refl _, by unfold maxLen; omega, rfl, rfl⟩⟩
theorem one_tsl (ts : List Tm) : ∀ u ∈ tsl ts, u.oneCell' = true := by
  intro u hu
  obtain ⟨t, _, ht⟩ := List.mem_flatMap.1 hu
  have := one_tcl t
  rw [List.all_toArray, List.all_eq_true] at this
  exact this u ht
theorem wpList_append_terms {ops : Array Oper} {rest : List Oper} {o : Oper} {a : Act} {w : World} {Q : Exit → Act → World → Prop} (hgd : o.guard = none) (s x : Operand)
    (ho : o.op = .call { callee := .builtin .append, args := #[s, x], argTypes := #[28, 28] })
    (base : Nat) (v : Value) (xs ys : List Tm) (h16 : L16 ys) (hs : a.eval s = v) (hi : RowT w base v xs) (hv : v ≠ .slice none 0 0) (ad : Addr) (c : Nat)
    (hx : a.eval x = .slice (some ad) ys.length c) (hy : ∀ i u, (tsl ys)[i]? = some u → w.cell? (ad.add i) = some u) (hl : xs.length + ys.length < 2097152) (hbase : base ≤ w.heap.size)
    (h : ∀ v' w', RowT w' base v' (xs ++ ys) → v' ≠ .slice none 0 0 → w.grownBy w' v.ownBlock → wpList Try.prog ops Q rest (a.put o.dst v') w') : wpList Try.prog ops Q (o :: rest) a w := by
  obtain ⟨i0, hi0, hz0, hz1, hz2⟩ := info_parts info52
  refine wpList_append_own_at w hgd s x 28 ho base 56 i0 _ 18 32 Try.underlying28 hi0 hz0 hz1 hz2 (by rfl) (by decide) _ _ _ hs hi ad ys.length c (tsl ys) hx (by rw [tsl_len ys h16, Nat.mul_comm]) hy (one_tsl ys) (by unfold maxLen; omega) (by omega) hbase ?_
  intro v' w' hown hgr hn hat
  rw [← List.length_append, ← tsl_app] at hown
  exact h v' w' hown (fun e => hv (hn.1 e).1) hgr
/-- A slice of one is laid, its run known. -/
theorem wpList_mkslice {P : Program} {ops : Array Oper} {rest : List Oper} {o : Oper} {a : Act} {w w' : World} {Q : Exit → Act → World → Prop} (hgd : o.guard = none) (t : TypeId) (x : Operand) (ho : o.op = .buildSlice t 1 #[(0, x)])
    (v u : Value) (hx : a.eval x = v) (hr : (Instr.buildSlice t 1 #[(0, v)]).run P w = .ok u w') (h : wpList P ops Q rest (a.put o.dst u) w') : wpList P ops Q (o :: rest) a w := by
  refine wpList_plain hgd fun _ hK => ?_
  unfold Oper.wp execOp
  simp only [ho, List.map_toArray, List.map_cons, List.map_nil, hx, Sem.run_bind, hr, Result.andThen_ok, Sem.run_pure]
  exact hK _ _ h
end Go.Proofs.Ytbibmncepjmgcaa
namespace Go.Proofs.Ytbibmncepjmgcaa
open Go.RowKit
set_option linter.unusedVariables false
set_option linter.unusedSimpArgs false
theorem builtT (n : Int) (ms : List Int) (h : ms.length = 16) (k : Int) : Try.prog.built 56 [(0, .agg (dcells n ms)), (1, .int .i64 k)] = some (tcl (n, ms, k)).toArray := by
  obtain ⟨a0, a1, a2, a3, a4, a5, a6, a7, a8, a9, b0, b1, b2, b3, b4, b5, rfl⟩ := list16 ms h
  kernel_rfl
theorem mkT1 (n : Int) (ms : List Int) (h : ms.length = 16) (k : Int) : ∀ w : World, (Instr.buildSlice 28 1 #[(0, .agg (tcl (n, ms, k)).toArray)]).run Try.prog w = .ok (.slice (some ⟨w.heap.size, 0, none⟩) 1 1) (w.alloc (.cells (tcl (n, ms, k)).toArray 56)) := by
  obtain ⟨a0, a1, a2, a3, a4, a5, a6, a7, a8, a9, b0, b1, b2, b3, b4, b5, rfl⟩ := list16 ms h
  intro w; kernel_rfl
theorem mkT0 : ∀ w : World, (Instr.buildSlice 28 0 #[]).run Try.prog w = .ok (.slice (some ⟨w.heap.size, 0, none⟩) 0 0) (w.alloc (.cells #[] 56)) := by
  intro w; kernel_rfl
theorem one_flat (w : World) (t : Tm) : ∀ i u, (tsl [t])[i]? = some u → (w.alloc (.cells (tcl t).toArray 56)).cell? ((⟨w.heap.size, 0, none⟩ : Addr).add i) = some u := fun i u hu => by
  rw [Addr.add_mid, Nat.zero_add, (Own.new w (tcl t).toArray 56).cell, List.getElem?_toArray]
  have : tsl [t] = tcl t := by simp [tsl]
  rw [← this]; exact hu
theorem builtE (p c n : Int) (q : Option Addr) (l cap : Nat) : Try.prog.built 30 [(0, .int .i64 p), (1, .int .i64 c), (2, .int .i64 n), (3, .slice q l cap)] = some (ecl p c n (.slice q l cap)) := by kernel_rfl
theorem builtE0 (p c n : Int) : Try.prog.built 30 [(0, .int .i64 p), (1, .int .i64 c), (2, .int .i64 n)] = some (ecl p c n (.slice none 0 0)) := by kernel_rfl
theorem infoE : (Try.prog.info? 30).map (·.size) = some 4 := by kernel_rfl
theorem ecl_one (p c n : Int) (q : Option Addr) (l cap : Nat) : (ecl p c n (.slice q l cap)).all (·.oneCell') = true := by simp [ecl, Value.oneCell']
set_option maxRecDepth 100000 in
set_option maxHeartbeats 1000000 in
theorem likeI_any (p c n : Int) (q : Option Addr) (l cap : Nat) (dn : Int) (ms : List Int) (hms : ms.length = 16) (w : World) :
    Calls Try.prog 38 #[.agg (ecl p c n (.slice q l cap)), .agg (dcells dn ms)] w fun e w' => ∃ g, e = .returned (.agg (ecl p c n (.slice (some ⟨g, 0, none⟩) 1 1))) ∧ w.heap.size ≤ g ∧ Own w' g (tcl (dn, ms, 1)).toArray 56 ∧ Below w.heap.size w w' := by
  have hl := Lib.hid hms
  have hb := Lib.hid (builtT dn ms hms 1)
  have hm1 := Lib.hid (mkT1 dn ms hms 1)
  have oR := Lib.hid (fun (A B C : Obj) (cs : Array Value) => show Own ((((w.alloc A).alloc B).alloc (.cells cs 30)).alloc C) (w.heap.size + 1 + 1) cs 30 from (Own.at ((w.alloc A).alloc B) cs 30 (by simp)).alloc C)
  have oT := Lib.hid (fun (A B C : Obj) (cs : Array Value) => show Own ((((w.alloc A).alloc B).alloc C).alloc (.cells cs 56)) (w.heap.size + 1 + 1 + 1) cs 56 from Own.at (((w.alloc A).alloc B).alloc C) cs 56 (by simp))
  have b4 := Lib.hid (fun (A B C D : Obj) => show Below w.heap.size w ((((w.alloc A).alloc B).alloc C).alloc D) from ((((Below.refl _ w).alloc (Nat.le_refl _) A).alloc (by simp) B).alloc (by simp; omega) C).alloc (by simp; omega) D)
  have oD := Lib.hid (fun (A C : Obj) => (Own.at (w.alloc A) (dcells dn ms) 53 (by simp : _ = w.heap.size + 1)).alloc C)
  clear hms
  unfold ecl at *
  go_enter Try.func38, Try.ntmps38
  go_wp2_with (first
    | (refine wpList_load_row rfl 53 _ rfl _ rfl 53 _ (0, 0) _ (oD.out _ _) Try.underlying53 rfl (row26 (d17 _ _ (hl.out))) ?_)
    | (refine wpList_build_of rfl 56 #[(0, .tmp 11), (1, .const (.int .i64 1))] rfl (tcl (dn, ms, 1)).toArray ?_ ?_; (exact hb.out))
    | (refine wpList_mkslice rfl 28 (.tmp 12) rfl (.agg (tcl (dn, ms, 1)).toArray) _ rfl (hm1.out _) ?_))
  refine bodyPost_ret (v := .agg #[.int .i64 p, .int .i64 c, .int .i64 n, .slice (some ⟨w.heap.size + 1 + 1 + 1, 0, none⟩) 1 1]) (results_cell_row rfl _ _ _ _ _ (0, 0) _ rfl (oR.out _ _ _ _) Try.underlying30 rfl (by kernel_rfl)) rfl ⟨_, rfl, by omega, oT.out _ _ _ _, b4.out _ _ _ _⟩
end Go.Proofs.Ytbibmncepjmgcaa
