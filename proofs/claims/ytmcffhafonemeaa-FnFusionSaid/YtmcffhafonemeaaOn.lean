/- A region that draws its order and makes memory at its end: what only reads, in every world that keeps some facts, is read first; then come operations that keep these facts; then the rest, in one forced order. -/
import Derived.Test.YtmcffhafonemeaaInv
import Derived.StillTail
import Derived.OrdersHeld
namespace Go.Proofs.Ytmcffhafonemeaa
section
variable {P : Program} {ops : Array Oper} {md : Region.Mode} {S : World → Prop}
/-- No other way out. -/
abbrev QF : Exit → Act → World → Prop := fun _ _ _ => False
theorem noOut : ¬ LetsOut QF := fun ⟨_, _, h⟩ => h
theorem wp_of_QF {o : Oper} {a : Act} {w : World} {K : Act → World → Prop} {Q : Exit → Act → World → Prop} (hh : o.wp P a w K QF) : o.wp P a w K Q := by
  unfold Oper.wp at *
  generalize (execOp a.eval o).run P w = r at *
  cases r with
  | ok n w' =>
    cases n <;> simp only [Oper.upon] at hh ⊢ <;>
      first
        | exact hh
        | exact Calls.mono hh (fun e w'' he => by
            cases e <;> first | exact he | exact (show False from he).elim | exact (noOut he).elim)
        | exact Rows.mono hh (fun _ _ he => he)
  | halt x w' => cases x <;> simp only [Oper.upon] at hh ⊢ <;> first | exact (show False from hh).elim | exact hh
theorem wpOp_of_QF {i : Nat} {a : Act} {w : World} {K : Act → World → Prop} {Q : Exit → Act → World → Prop} (hh : wpOp P ops QF i K a w) : wpOp P ops Q i K a w := by
  unfold wpOp at *
  split
  · rename_i ho; simp only [ho] at hh; exact hh
  · rename_i o ho
    simp only [ho] at hh
    split
    · rename_i hw
      simp only [hw, if_true] at hh
      rcases hh with hh | ⟨_, h1⟩
      · exact .inl (wp_of_QF hh)
      · exact (noOut h1).elim
    · rename_i hw; simp only [hw] at hh; exact hh
/-- The operation gives v in every world that meets S. -/
def YieldsC (P : Program) (ops : Array Oper) (S : World → Prop) (o : Oper) (v : Value) (a : Act) : Prop := ∀ w, S w → YieldsAt P ops w o v a
theorem YieldsC.of_same {o : Oper} {v : Value} {a a' : Act} (hy : YieldsC P ops S o v a) (he : execOp a'.eval o = execOp a.eval o)
    (hw : Region.wanted o (yielded ops a'.tmps) = Region.wanted o (yielded ops a.tmps)) : YieldsC P ops S o v a' := fun w hS => (hy w hS).of_same he hw
theorem YieldsC.wpOp {i : Nat} {o : Oper} {v : Value} {a : Act} (hi : ops[i]? = some o) (hy : YieldsC P ops S o v a)
    {K : Act → World → Prop} {w : World} (hS : S w) (h : K (a.put o.dst v) w) : wpOp P ops QF i K a w := by
  have := hy w hS
  unfold Go.wpOp
  simp only [hi]
  rcases this with ⟨hw, hv | ⟨hv, rfl⟩ | ⟨f, args, hv, hc⟩⟩ | ⟨hw, rfl⟩
  · simp only [hw, if_true, Oper.wp, hv, Oper.upon]; exact .inl h
  · simp only [hw, if_true, Oper.wp, hv, Oper.upon]; exact .inl h
  · simp only [hw, if_true, Oper.wp, hv, Oper.upon]
    refine .inl (hc.mono ?_)
    rintro e w' ⟨rfl, rfl⟩
    exact h
  · simp only [hw, Bool.false_eq_true, if_false]; exact h
theorem wpOp_putC {j : Nat} {oi oj : Oper} {v : Value} (hj : ops[j]? = some oj) (hap : oi.apart ops oj = true)
    (hsi : ∀ cs b, oi.op ≠ .select cs b) (hsj : ∀ cs b, oj.op ≠ .select cs b) {K : Act → World → Prop} {a : Act} {w : World}
    (hy : YieldsC P ops S oi v a) (h : wpOp P ops QF j K (a.put oi.dst v) w) :
    wpOp P ops QF j (fun a' w' => YieldsC P ops S oi v a' ∧ K (a'.put oi.dst v) w') a w := by
  obtain ⟨h1, h2, h3⟩ := Oper.apart_spec hap
  have keep : ∀ (a : Act), YieldsC P ops S oi v a → ∀ u, YieldsC P ops S oi v (a.put oj.dst u) := fun a hy u =>
    hy.of_same (execOp_put oi hsi a oj.dst u h3) (wanted_put oi a oj.dst u h3)
  have keepD : ∀ d, YieldsC P ops S oi v { a with defers := d :: a.defers } := fun d => hy.of_same rfl rfl
  unfold wpOp at *
  simp only [hj] at *
  rw [wanted_put oj a oi.dst v h1] at h
  split
  · rename_i hw
    simp only [hw, if_true] at h
    rcases h with h | ⟨_, hlets⟩
    case inr => exact (noOut hlets).elim
    refine .inl ?_
    unfold Oper.wp at *
    rw [execOp_put oj hsj a oi.dst v h1] at h
    generalize (execOp a.eval oj).run P w = r at *
    cases r with
    | ok n w' =>
      cases n <;> simp only [Oper.upon] at h ⊢
      case value u => exact ⟨keep a hy u, by rw [← Act.put_comm a v u h2]; exact h⟩
      case skip => exact ⟨keep a hy _, by rw [← Act.put_comm a v undef h2]; exact h⟩
      case defer d =>
        refine ⟨keep _ (keepD d) _, ?_⟩
        rw [← Act.put_comm _ v undef h2, ← Act.put_defers]
        exact h
      case enter f args =>
        refine Calls.mono h fun e w'' he => ?_
        cases e with
        | returned u => exact ⟨keep a hy u, by rw [← Act.put_comm a v u h2]; exact he⟩
        | panicked c => exact (show False from he).elim
        | outgrown => exact (noOut he).elim
      case row row args => exact Rows.mono h fun u w'' he => ⟨keep a hy u, by rw [← Act.put_comm a v u h2]; exact he⟩
    | halt x w' =>
      cases x <;> simp only [Oper.upon] at h ⊢
      case panic u => exact (show False from h).elim
  · rename_i hw
    simp only [hw] at h
    exact ⟨keep a hy _, by rw [← Act.put_comm a v undef h2]; exact h⟩
/-- The first m operations, in whatever order; behind each of them S. -/
def wpAnyM (P : Program) (md : Region.Mode) (ops : Array Oper) (S : World → Prop) (m : Nat) (L : Array Bool → Act → World → Prop) : Nat → Array Bool → Act → World → Prop
  | 0, listed, a, w => L listed a w
  | f + 1, listed, a, w => Region.ready md ops listed ≠ [] ∧ ∀ i ∈ Region.ready md ops listed, i < m ∧ wpOp P ops QF i (fun a' w' => S w' ∧ wpAnyM P md ops S m L f (listed.setIfInBounds i true) a' w') a w
theorem wpAny_of_M {m g : Nat} {L : Array Bool → Act → World → Prop} {Q : Exit → Act → World → Prop} (hL : ∀ listed a w, L listed a w → wpAny P md ops Q g listed a w) :
    ∀ (f : Nat) (listed : Array Bool) (a : Act) (w : World), wpAnyM P md ops S m L f listed a w → wpAny P md ops Q (f + g) listed a w
  | 0, listed, a, w, h => by rw [Nat.zero_add]; exact hL _ _ _ h
  | f + 1, listed, a, w, h => by
    rw [show f + 1 + g = (f + g) + 1 by omega]
    exact ⟨fun h0 => absurd h0 h.1, fun i hi => wpOp_of_QF (wpOp_mono (fun a' w' h' => wpAny_of_M hL f _ a' w' h'.2) (h.2 i hi).2)⟩
theorem wpAnyM_first {m i : Nat} {oi : Oper} {v : Value} {L : Array Bool → Act → World → Prop} (hi : ops[i]? = some oi) (hsel : ∀ (j : Nat) (o : Oper) cs b, ops[j]? = some o → o.op ≠ .select cs b)
    (hs : Region.sinkB md ops m = true) (hc : Region.chainB md ops m = true) (hn : m < ops.size) (him : i < m)
    (hdone : ∀ listed a w, L listed a w → ∀ j ∈ Region.ready md ops listed, m ≤ j) :
    ∀ (f : Nat) (listed : Array Bool) (a : Act) (w : World), HeadInv md ops m listed →
      (∀ j oj, ops[j]? = some oj → j ≠ i → listed.getD j true = false → (∀ e ∈ oj.after, Region.binds md e = true → e.on ≠ i) → oi.apart ops oj = true) →
      i ∈ Region.ready md ops listed → YieldsC P ops S oi v a → S w →
      wpAnyM P md ops S m L f (listed.setIfInBounds i true) (a.put oi.dst v) w → wpAnyM P md ops S m L (f + 1) listed a w := by
  intro f
  induction f with
  | zero =>
    intro listed a w inv _ hr hy hS H
    have hun := (mem_ready.1 hr).1
    refine ⟨fun h => (by rw [h] at hr; cases hr), fun j hj => ?_⟩
    have hjm : j < m := by
      rcases Nat.lt_or_ge j m with h | h
      · exact h
      · exact absurd hj (tail_waits hs hc hn inv _ i rfl him hun j h)
    refine ⟨hjm, ?_⟩
    by_cases hji : j = i
    · subst hji; exact hy.wpOp hi hS ⟨hS, H⟩
    · have := hdone _ _ _ H j (ready_mono hj hji)
      omega
  | succ f ih =>
    intro listed a w inv hfree hr hy hS H
    have hun := (mem_ready.1 hr).1
    refine ⟨fun h => (by rw [h] at hr; cases hr), fun j hj => ?_⟩
    have hjm : j < m := by
      rcases Nat.lt_or_ge j m with h | h
      · exact h
      · exact absurd hj (tail_waits hs hc hn inv _ i rfl him hun j h)
    refine ⟨hjm, ?_⟩
    by_cases hji : j = i
    · subst hji; exact hy.wpOp hi hS ⟨hS, H⟩
    · have h1 := (H.2 j (ready_mono hj hji)).2
      obtain ⟨hjun, oj, hoj, hall⟩ := mem_ready.1 hj
      have hnot : ∀ e ∈ oj.after, Region.binds md e = true → e.on ≠ i := fun e he hb heq => by
        have h1 := hall e he hb
        rw [heq, getD_both hun] at h1
        cases h1
      have h2 := wpOp_putC hoj (hfree j oj hoj hji hjun hnot) (fun cs b => hsel i oi cs b hi) (fun cs b => hsel j oj cs b hoj) hy h1
      have hfree' : ∀ k ok, ops[k]? = some ok → k ≠ i → (listed.setIfInBounds j true).getD k true = false →
          (∀ e ∈ ok.after, Region.binds md e = true → e.on ≠ i) → oi.apart ops ok = true := fun k ok hk hki hun hno => by
        refine hfree k ok hk hki ?_ hno
        by_cases hjk : j = k
        · subst hjk; exact hjun
        · rw [getD_set_ne true hjk] at hun; exact hun
      refine wpOp_mono (fun a' w' h3 => ⟨h3.2.1, ih (listed.setIfInBounds j true) a' w' (inv.set hj hjm) hfree' (ready_mono hr (Ne.symm hji)) h3.1 h3.2.1 ?_⟩) h2
      rw [Array.setIfInBounds_comm _ _ hji]
      exact h3.2.2
/-- Each of the readers in turn, in every world that meets S. -/
def wpOn (P : Program) (ops : Array Oper) (S : World → Prop) (Q : Act → Prop) : List Oper → Act → Prop
  | [], a => Q a
  | o :: rest, a => ∃ a1 : Act, (∀ w, S w → ∀ K : Act → Prop, K a1 → if Region.wanted o (yielded ops a.tmps) then o.still P a w K else K (a.put o.dst undef)) ∧ wpOn P ops S Q rest a1
/-- Each of the keepers in turn. -/
def wpMid (P : Program) (ops : Array Oper) (S : World → Prop) (Q : Act → World → Prop) : List Oper → Act → World → Prop
  | [], a, w => Q a w
  | o :: rest, a, w => ∀ K : Act → World → Prop, (∀ a' w', S w' → wpMid P ops S Q rest a' w' → K a' w') → wpList P ops (only K) [o] a w
theorem wpOp_of_list' {i : Nat} {o : Oper} {a : Act} {w : World} {K : Act → World → Prop} (ho : ops[i]? = some o) (hh : wpList P ops (only K) [o] a w) : wpOp P ops QF i K a w :=
  wpOp_of_list ho (fun _ _ h => h) hh
/-- The operation of a number. -/
def opN (ops : Array Oper) (k : Nat) : Oper := ops.toList.getD k ⟨none, .ready 0, 0, "", #[], none⟩
def seqI (md : Region.Mode) (ops : Array Oper) (g m : Nat) : List Nat → Array Bool → Bool
  | [], listed => Region.seqB md ops g m listed
  | k :: ks, listed => decide (Region.ready md ops listed = [k]) && decide (k < m) && seqI md ops g m ks (listed.setIfInBounds k true)
def headI (md : Region.Mode) (ops : Array Oper) (g m : Nat) (ms : List Nat) : List Nat → Array Bool → Bool
  | [], listed => seqI md ops g m ms listed
  | k :: ks, listed => (Region.ready md ops listed).contains k && Region.free md ops listed k && decide (k < m) && headI md ops g m ms ks (listed.setIfInBounds k true)
theorem opN_get {k m : Nat} (h : k < m) (hm : m < ops.size) : ops[k]? = some (opN ops k) := by
  unfold opN
  rw [List.getD_eq_getElem?_getD]
  have : k < ops.size := by omega
  simp [this]
theorem wpAnyM_mid {m g : Nat} {L : Act → World → Prop} (hn : m < ops.size) : ∀ (l : List Nat) (listed : Array Bool) (a : Act) (w : World),
    seqI md ops g m l listed = true → S w → wpMid P ops S L (l.map (opN ops)) a w →
    wpAnyM P md ops S m (fun listed' a' w' => Region.seqB md ops g m listed' = true ∧ L a' w') l.length listed a w
  | [], listed, a, w, hB, _, h => ⟨hB, h⟩
  | k :: l, listed, a, w, hB, hS, h => by
    simp only [seqI, Bool.and_eq_true, decide_eq_true_eq] at hB
    obtain ⟨⟨hr, hk⟩, hB'⟩ := hB
    refine ⟨fun h1 => (by rw [hr] at h1; cases h1), fun i hi => ?_⟩
    rw [hr] at hi
    have hik : i = k := by simpa using hi
    subst hik
    refine ⟨hk, wpOp_of_list' (opN_get hk hn) (h _ fun a' w' hS' h' => ⟨hS', ?_⟩)⟩
    exact wpAnyM_mid hn l _ a' w' hB' hS' h'
/-- The operation has a slot of its own in a frame of N. -/
def dstB (N : Nat) (o : Oper) : Bool := match o.dst with | some d => decide (d < N) | none => false
theorem yieldsC_of_on {o : Oper} {a a1 : Act} (w0 : World) (hw0 : S w0) (hd : dstB a.tmps.size o = true) (h : ∀ w, S w → ∀ K : Act → Prop, K a1 → if Region.wanted o (yielded ops a.tmps) then o.still P a w K else K (a.put o.dst undef)) :
    ∃ v, YieldsC P ops S o v a ∧ a.put o.dst v = a1 := by
  have key : ∀ w, S w → ∃ v, YieldsAt P ops w o v a ∧ a.put o.dst v = a1 := fun w hS => by
    have h' := h w hS (· = a1) rfl
    by_cases hw : Region.wanted o (yielded ops a.tmps) = true
    · rw [if_pos hw] at h'
      unfold Oper.still at h'
      generalize hr : (execOp a.eval o).run P w = r at h'
      cases r with
      | ok n w' =>
        cases n <;> simp only [Oper.stillUpon] at h'
        case value u => obtain ⟨rfl, h2⟩ := h'; exact ⟨u, .inl ⟨hw, .inl hr⟩, h2⟩
        case skip => obtain ⟨rfl, h2⟩ := h'; exact ⟨undef, .inl ⟨hw, .inr (.inl ⟨hr, rfl⟩)⟩, h2⟩
        case enter f args => obtain ⟨rfl, v, hc, h2⟩ := h'; exact ⟨v, .inl ⟨hw, .inr (.inr ⟨f, args, hr, hc⟩)⟩, h2⟩
      | halt x w' => simp only [Oper.stillUpon] at h'
    · rw [if_neg hw] at h'
      exact ⟨undef, .inr ⟨by simpa using hw, rfl⟩, h'⟩
  obtain ⟨v, hv, he⟩ := key w0 hw0
  refine ⟨v, fun w hS => ?_, he⟩
  obtain ⟨v', hv', he'⟩ := key w hS
  have : v' = v := by
    unfold dstB at hd
    cases hq : o.dst with
    | none => rw [hq] at hd; cases hd
    | some d =>
      rw [hq] at hd
      have hlt : d < a.tmps.size := by simpa using hd
      have e : (a.put o.dst v').tmps[d]? = (a.put o.dst v).tmps[d]? := by rw [he, he']
      rw [hq] at e
      simpa [Act.put, hlt] using e
  rw [← this]; exact hv'
theorem put_size (a : Act) (d : Option Tmp) (v : Value) : (a.put d v).tmps.size = a.tmps.size := by
  unfold Act.put; split <;> simp
theorem wpAnyM_on {m g N : Nat} {L : Act → World → Prop} {ms : List Nat} (hsel : Region.noSelect ops = true) (hs : Region.sinkB md ops m = true) (hc : Region.chainB md ops m = true) (hn : m < ops.size) :
    ∀ (l : List Nat) (listed : Array Bool) (a : Act) (w : World), HeadInv md ops m listed → a.tmps.size = N → (l.map (opN ops)).all (dstB N) = true →
    headI md ops g m ms l listed = true → (∀ j ∈ ms, j < m) → S w → wpOn P ops S (fun a' => ∀ w', S w' → wpMid P ops S L (ms.map (opN ops)) a' w') (l.map (opN ops)) a →
    wpAnyM P md ops S m (fun listed' a' w' => Region.seqB md ops g m listed' = true ∧ L a' w') (l.length + ms.length) listed a w
  | [], listed, a, w, _, _, _, hB, _, hS, h => by
    rw [List.length_nil, Nat.zero_add]
    exact wpAnyM_mid hn ms listed a w (by simpa [headI] using hB) hS (h w hS)
  | k :: l, listed, a, w, inv, hN, hD, hB, hms, hS, h => by
    simp only [headI, Bool.and_eq_true, decide_eq_true_eq] at hB
    obtain ⟨⟨⟨hr, hf⟩, hkm⟩, hB'⟩ := hB
    have h0 := opN_get hkm hn
    have hr' : k ∈ Region.ready md ops listed := by simpa using hr
    rw [List.map_cons, List.all_cons, Bool.and_eq_true] at hD
    obtain ⟨a1, h1, h2⟩ := h
    obtain ⟨v, hv, he⟩ := yieldsC_of_on w hS (by rw [hN]; exact hD.1) h1
    subst he
    rw [List.length_cons, show l.length + 1 + ms.length = (l.length + ms.length) + 1 by omega]
    exact wpAnyM_first h0 (Region.noSelect_spec hsel) hs hc hn hkm (fun listed' a' w' hL => seqB_ready hL.1) (l.length + ms.length) listed a w inv (Region.free_spec h0 hf) hr' hv hS
      (wpAnyM_on hsel hs hc hn l _ _ w (inv.set hr' hkm) (by rw [put_size]; exact hN) hD.2 hB' hms hS h2)
theorem wpOn_step {S : World → Prop} {Q : Act → Prop} {o : Oper} {rest : List Oper} {a : Act} (a1 : Act) (h1 : ∀ w, S w → ∀ K : Act → Prop, K a1 → if Region.wanted o (yielded ops a.tmps) then o.still P a w K else K (a.put o.dst undef)) (h2 : wpOn P ops S Q rest a1) : wpOn P ops S Q (o :: rest) a := ⟨a1, h1, h2⟩
theorem wpOn_nil {S : World → Prop} {Q : Act → Prop} {a : Act} (h : Q a) : wpOn P ops S Q [] a := h
theorem wpMid_step {S : World → Prop} {Q : Act → World → Prop} {o : Oper} {rest : List Oper} {a : Act} {w : World} (h : ∀ K : Act → World → Prop, (∀ a' w', S w' → wpMid P ops S Q rest a' w' → K a' w') → wpList P ops (only K) [o] a w) : wpMid P ops S Q (o :: rest) a w := h
theorem wpMid_nil {S : World → Prop} {Q : Act → World → Prop} {a : Act} {w : World} (h : Q a w) : wpMid P ops S Q [] a w := h
/-- The checks: readers, then keepers, all below m; then the rest. -/
def onB (ops : Array Oper) (N : Nat) (hs ms : List Nat) (m : Nat) : Bool :=
  Region.noSelect ops && decide (m < ops.size) && decide (hs.length + ms.length = m) && Region.sinkB .any ops m && Region.chainB .any ops m && (hs.map (opN ops)).all (dstB N) && ms.all (fun k => decide (k < m)) && headI .any ops (ops.size - m) m ms hs (Array.replicate ops.size false)
theorem wp_region_on {id : Nat} {Q : Exit → Act → World → Prop} {a : Act} {w : World} {l : List Oper} (S : World → Prop) (hs ms : List Nat) (m : Nat) (hm : P.follows .mixedOrders = true) (hB : onB l.toArray a.tmps.size hs ms m = true)
    (hS : S { w with drawn := w.drawn + 1 })
    (h : wpOn P l.toArray S (fun a' => ∀ w', S w' → wpMid P l.toArray S (fun a2 w2 => wpList P l.toArray Q (l.drop m) a2 w2) (ms.map (opN l.toArray)) a' w') (hs.map (opN l.toArray)) a) : (Code.region id l.toArray true).wp P Q a w := by
  simp only [onB, Bool.and_eq_true, decide_eq_true_eq] at hB
  obtain ⟨⟨⟨⟨⟨⟨⟨hsel, hn⟩, hlen⟩, hsk⟩, hc⟩, hD⟩, hms⟩, hlex⟩ := hB
  have hdl : (l.drop m).length = l.toArray.size - m := by simp
  have inv0 : HeadInv .any l.toArray m (Array.replicate l.toArray.size false) :=
    ⟨by simp, fun j oj _ hl => (by rw [getD_replicate_false] at hl; cases hl), fun t _ ht => getD_in (by simpa using ht) (getD_replicate_false _ _)⟩
  have H := wpAnyM_on (md := .any) (g := l.toArray.size - m) (m := m) (N := a.tmps.size) (ms := ms) hsel hsk hc hn hs _ a _ inv0 rfl hD hlex (fun j hj => by
    have := List.all_eq_true.1 hms j hj; simpa using this) hS h
  refine wp_region_any hm ?_
  have := wpAny_of_M (Q := Q) (g := l.toArray.size - m) (fun listed a' w' hL => by
    have := wpAny_of_seq (md := .any) (Q' := Q) (l.drop m) m listed a' w' (fun j => by simp [List.getElem?_drop]) (by rw [hdl]; exact hL.1) hL.2
    rwa [hdl] at this) _ _ _ _ H
  rw [hlen, show m + (l.toArray.size - m) = l.toArray.size by omega] at this
  exact this
theorem opN_zero (o : Oper) (l : List Oper) : opN (o :: l).toArray 0 = o := rfl
theorem opN_succ (o : Oper) (l : List Oper) (k : Nat) : opN (o :: l).toArray (k + 1) = opN l.toArray k := rfl
end
end Go.Proofs.Ytmcffhafonemeaa
