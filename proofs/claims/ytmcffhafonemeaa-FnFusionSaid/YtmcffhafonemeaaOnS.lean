/- A region that draws its order and makes memory: steps of two kinds, one after the other: what only reads in every world that keeps some facts, wherever it comes; and what keeps these facts, in a forced order; then the rest, in one forced order. -/
import Derived.Test.YtmcffhafonemeaaOn
namespace Go.Proofs.Ytmcffhafonemeaa
section
variable {P : Program} {ops : Array Oper} {md : Region.Mode} {S : World → Prop}
/-- The steps: true: a reader; false: a keeper. -/
def stepI (md : Region.Mode) (ops : Array Oper) (g m : Nat) : List (Bool × Nat) → Array Bool → Bool
  | [], listed => Region.seqB md ops g m listed
  | (true, k) :: ks, listed => (Region.ready md ops listed).contains k && Region.free md ops listed k && decide (k < m) && stepI md ops g m ks (listed.setIfInBounds k true)
  | (false, k) :: ks, listed => decide (Region.ready md ops listed = [k]) && decide (k < m) && stepI md ops g m ks (listed.setIfInBounds k true)
def wpSt (P : Program) (ops : Array Oper) (S : World → Prop) (Q : Act → World → Prop) : List (Bool × Oper) → Act → World → Prop
  | [], a, w => Q a w
  | (true, o) :: rest, a, w => ∃ a1 : Act, (∀ w, S w → ∀ K : Act → Prop, K a1 → if Region.wanted o (yielded ops a.tmps) then o.still P a w K else K (a.put o.dst undef)) ∧ wpSt P ops S Q rest a1 w
  | (false, o) :: rest, a, w => ∀ K : Act → World → Prop, (∀ a' w', S w' → a'.tmps.size = a.tmps.size → wpSt P ops S Q rest a' w' → K a' w') → wpList P ops (only K) [o] a w
def opS' (ops : Array Oper) (q : Bool × Nat) : Bool × Oper := (q.1, opN ops q.2)
theorem wpAnyM_st {m g N : Nat} {L : Act → World → Prop} (hsel : Region.noSelect ops = true) (hs : Region.sinkB md ops m = true) (hc : Region.chainB md ops m = true) (hn : m < ops.size) :
    ∀ (l : List (Bool × Nat)) (listed : Array Bool) (a : Act) (w : World), HeadInv md ops m listed → a.tmps.size = N → l.all (fun q => !q.1 || dstB N (opN ops q.2)) = true →
    stepI md ops g m l listed = true → S w → wpSt P ops S L (l.map (opS' ops)) a w →
    wpAnyM P md ops S m (fun listed' a' w' => Region.seqB md ops g m listed' = true ∧ L a' w') l.length listed a w
  | [], listed, a, w, _, _, _, hB, _, h => ⟨hB, h⟩
  | (true, k) :: l, listed, a, w, inv, hN, hD, hB, hS, h => by
    simp only [stepI, Bool.and_eq_true, decide_eq_true_eq] at hB
    obtain ⟨⟨⟨hr, hf⟩, hkm⟩, hB'⟩ := hB
    have h0 := opN_get hkm hn
    have hr' : k ∈ Region.ready md ops listed := by simpa using hr
    rw [List.all_cons, Bool.and_eq_true] at hD
    obtain ⟨a1, h1, h2⟩ := h
    obtain ⟨v, hv, he⟩ := yieldsC_of_on w hS (by rw [hN]; simpa using hD.1) h1
    subst he
    exact wpAnyM_first h0 (Region.noSelect_spec hsel) hs hc hn hkm (fun listed' a' w' hL => seqB_ready hL.1) l.length listed a w inv (Region.free_spec h0 hf) hr' hv hS
      (wpAnyM_st hsel hs hc hn l _ _ w (inv.set hr' hkm) (by rw [put_size]; exact hN) hD.2 hB' hS h2)
  | (false, k) :: l, listed, a, w, inv, hN, hD, hB, hS, h => by
    simp only [stepI, Bool.and_eq_true, decide_eq_true_eq] at hB
    obtain ⟨⟨hr, hk⟩, hB'⟩ := hB
    rw [List.all_cons, Bool.and_eq_true] at hD
    refine ⟨fun h1 => (by rw [hr] at h1; cases h1), fun i hi => ?_⟩
    have hi' := hi
    rw [hr] at hi
    have hik : i = k := by simpa using hi
    subst hik
    refine ⟨hk, wpOp_of_list' (opN_get hk hn) (h _ fun a' w' hS' hsz h' => ⟨hS', ?_⟩)⟩
    exact wpAnyM_st hsel hs hc hn l _ a' w' (inv.set hi' hk) (hsz.trans hN) hD.2 hB' hS' h'
theorem wpSt_read {S : World → Prop} {Q : Act → World → Prop} {o : Oper} {rest : List (Bool × Oper)} {a : Act} {w : World} (a1 : Act) (h1 : ∀ w, S w → ∀ K : Act → Prop, K a1 → if Region.wanted o (yielded ops a.tmps) then o.still P a w K else K (a.put o.dst undef)) (h2 : wpSt P ops S Q rest a1 w) : wpSt P ops S Q ((true, o) :: rest) a w := ⟨a1, h1, h2⟩
theorem wpSt_keep {S : World → Prop} {Q : Act → World → Prop} {o : Oper} {rest : List (Bool × Oper)} {a : Act} {w : World} (h : ∀ K : Act → World → Prop, (∀ a' w', S w' → a'.tmps.size = a.tmps.size → wpSt P ops S Q rest a' w' → K a' w') → wpList P ops (only K) [o] a w) : wpSt P ops S Q ((false, o) :: rest) a w := h
theorem wpSt_nil {S : World → Prop} {Q : Act → World → Prop} {a : Act} {w : World} (h : Q a w) : wpSt P ops S Q [] a w := h
def stB (ops : Array Oper) (N : Nat) (st : List (Bool × Nat)) (m : Nat) : Bool :=
  Region.noSelect ops && decide (m < ops.size) && decide (st.length = m) && Region.sinkB .any ops m && Region.chainB .any ops m && st.all (fun q => !q.1 || dstB N (opN ops q.2)) && stepI .any ops (ops.size - m) m st (Array.replicate ops.size false)
theorem wp_region_st {id : Nat} {Q : Exit → Act → World → Prop} {a : Act} {w : World} {l : List Oper} (S : World → Prop) (st : List (Bool × Nat)) (m : Nat) (hm : P.follows .mixedOrders = true) (hB : stB l.toArray a.tmps.size st m = true)
    (hS : S { w with drawn := w.drawn + 1 })
    (h : wpSt P l.toArray S (fun a2 w2 => wpList P l.toArray Q (l.drop m) a2 w2) (st.map (opS' l.toArray)) a { w with drawn := w.drawn + 1 }) : (Code.region id l.toArray true).wp P Q a w := by
  simp only [stB, Bool.and_eq_true, decide_eq_true_eq] at hB
  obtain ⟨⟨⟨⟨⟨⟨hsel, hn⟩, hlen⟩, hsk⟩, hc⟩, hD⟩, hlex⟩ := hB
  have hdl : (l.drop m).length = l.toArray.size - m := by simp
  have inv0 : HeadInv .any l.toArray m (Array.replicate l.toArray.size false) :=
    ⟨by simp, fun j oj _ hl => (by rw [getD_replicate_false] at hl; cases hl), fun t _ ht => getD_in (by simpa using ht) (getD_replicate_false _ _)⟩
  have H := wpAnyM_st (md := .any) (g := l.toArray.size - m) (m := m) (N := a.tmps.size) hsel hsk hc hn st _ a _ inv0 rfl hD hlex hS h
  refine wp_region_any hm ?_
  have := wpAny_of_M (Q := Q) (g := l.toArray.size - m) (fun listed a' w' hL => by
    have := wpAny_of_seq (md := .any) (Q' := Q) (l.drop m) m listed a' w' (fun j => by simp [List.getElem?_drop]) (by rw [hdl]; exact hL.1) hL.2
    rwa [hdl] at this) _ _ _ _ H
  rw [hlen, show m + (l.toArray.size - m) = l.toArray.size by omega] at this
  exact this
theorem opS'_mk (l : List Oper) (b : Bool) (k : Nat) : opS' l.toArray (b, k) = (b, opN l.toArray k) := rfl
end
end Go.Proofs.Ytmcffhafonemeaa
