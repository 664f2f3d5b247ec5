/- CommutatorElement: plain; the program. (Written by genkoa.py.) -/
import Derived.Test.YtbibmncepjmgcaaPwp
import Derived.Test.YtbibmncepjmgcaaMuc
import Derived.Maps.RangeWalk
namespace Go.Proofs.Ytbibmncepjmgcaa
open Go.RowKit Go.Lib
open Go.Maps (Keyed)
set_option linter.unusedVariables false
set_option linter.unusedSimpArgs false
/-- What a sum is when those entries of another one that have come are taken away. -/
noncomputable def lessN (p : Int) (M1 M2 : List Tm) (left : Lit → Bool) : List Tm := adds p ((M2.filter fun t => !left (kyD (kTm t))).map fun t => (kTm t, -t.2.2)) M1
theorem neg_vd {M : List Tm} (h : ∀ t ∈ M, VD (kTm t)) (f : Tm → Bool) : ∀ u ∈ (M.filter f).map (fun t => ((kTm t, -t.2.2) : Tu)), VD u.1 := by
  intro u hu
  obtain ⟨t, ht, rfl⟩ := List.mem_map.1 hu
  exact h t (List.mem_filter.1 ht).1
theorem lessN_good {p : Int} (hp : 0 < p) {M1 M2 : List Tm} (h1 : GoodT p M1) (h2 : GoodT p M2) (left : Lit → Bool) : GoodT p (lessN p M1 M2 left) :=
  adds_good hp _ _ (neg_vd h2.val _) h1
theorem lessN_start {p : Int} {M1 M2 : List Tm} {left : Lit → Bool} (h : ∀ t ∈ M2, left (kyD (kTm t)) = true) : lessN p M1 M2 left = M1 := by
  unfold lessN
  rw [List.filter_eq_nil_iff.2 (fun t ht => by rw [h t ht]; simp)]
  rfl
theorem lessN_end {p : Int} {M1 M2 : List Tm} {left : Lit → Bool} (h : ∀ t ∈ M2, left (kyD (kTm t)) = false) : lessN p M1 M2 left = smN p (-1) M2 M1 := by
  unfold lessN
  rw [List.filter_eq_self.2 (fun t ht => by rw [h t ht]; rfl), smN_adds]
  congr 1
  exact List.map_congr_left (fun t _ => by rw [Int.neg_one_mul])
set_option maxRecDepth 100000 in
theorem lessN_step {p : Int} (hp : 0 < p) {M1 M2 : List Tm} (h1 : GoodT p M1) (h2 : GoodT p M2) {left : Lit → Bool} {t : Tm} (ht : t ∈ M2) (hl : left (kyD (kTm t)) = true) :
    lessN p M1 M2 (fun z => left z && !z.sameKey (kyD (kTm t))) = addT p (kTm t) (-t.2.2) (lessN p M1 M2 left) := by
  obtain ⟨a, b, rfl⟩ := List.append_of_mem ht
  have hne : ∀ s, s ∈ a ∨ s ∈ b → (kyD (kTm s)).sameKey (kyD (kTm t)) = false := by
    intro s hs
    have hs2 : s ∈ a ++ t :: b := by rcases hs with h | h <;> simp [h]
    cases q : (kyD (kTm s)).sameKey (kyD (kTm t)) with
    | false => rfl
    | true =>
      have e : kTm s = kTm t := kyD_inj (h2.val s hs2) (h2.val t ht) (WideAt.sameKey_eq q)
      have hs3 := List.pairwise_append.1 h2.srt
      have hlt : ltD (kTm s) (kTm t) = true ∨ ltD (kTm t) (kTm s) = true := by
        rcases hs with h | h
        · exact .inl (hs3.2.2 s h t (by simp))
        · exact .inr ((List.pairwise_cons.1 hs3.2.1).1 s h)
      rw [e] at hlt
      have hir := linD.irr _ (h2.val t ht)
      have hir' : ltD (kTm t) (kTm t) = false := hir
      rcases hlt with h | h <;> rw [hir'] at h <;> cases h
  have hfe : ∀ l : List Tm, (∀ s ∈ l, (kyD (kTm s)).sameKey (kyD (kTm t)) = false) → l.filter (fun s => !(left (kyD (kTm s)) && !(kyD (kTm s)).sameKey (kyD (kTm t)))) = l.filter (fun s => !left (kyD (kTm s))) := by
    intro l h
    refine List.filter_congr (fun s hs => ?_)
    rw [h s hs]
    simp
  have hsame : (kyD (kTm t)).sameKey (kyD (kTm t)) = true := WideAt.sameKey_self (kyD_key (h2.val t ht))
  have e1 : (a ++ t :: b).filter (fun s => !(left (kyD (kTm s)) && !(kyD (kTm s)).sameKey (kyD (kTm t)))) = a.filter (fun s => !left (kyD (kTm s))) ++ t :: b.filter (fun s => !left (kyD (kTm s))) := by
    rw [List.filter_append, hfe a (fun s hs => hne s (.inl hs)), List.filter_cons_of_pos (p := fun s => !(left (kyD (kTm s)) && !(kyD (kTm s)).sameKey (kyD (kTm t)))) (show (!(left (kyD (kTm t)) && !(kyD (kTm t)).sameKey (kyD (kTm t)))) = true from by rw [hsame, Bool.not_true, Bool.and_false]; rfl), hfe b (fun s hs => hne s (.inr hs))]
  have e2 : (a ++ t :: b).filter (fun s => !left (kyD (kTm s))) = a.filter (fun s => !left (kyD (kTm s))) ++ b.filter (fun s => !left (kyD (kTm s))) := by
    rw [List.filter_append, List.filter_cons_of_neg (p := fun s => !left (kyD (kTm s))) (show ¬ (!left (kyD (kTm t))) = true from by rw [hl]; exact Bool.false_ne_true)]
  have hv := neg_vd h2.val (fun s => !(left (kyD (kTm s)) && !(kyD (kTm s)).sameKey (kyD (kTm t))))
  unfold lessN
  rw [e1] at hv
  rw [e1, e2]
  have hp1 : (a.filter (fun s => !left (kyD (kTm s))) ++ t :: b.filter (fun s => !left (kyD (kTm s)))).Perm ((a.filter (fun s => !left (kyD (kTm s))) ++ b.filter (fun s => !left (kyD (kTm s)))) ++ [t]) :=
    List.perm_middle.trans (List.perm_append_singleton _ _).symm
  rw [adds_perm hp (hp1.map (fun t => ((kTm t, -t.2.2) : Tu))) M1 hv h1, List.map_append, adds_append]
  rfl
theorem smN_len2 (p k : Int) (ts L : List Tm) : (smN p k ts L).length ≤ L.length + ts.length := smN_len p k ts L
theorem wpList_len_if {H : Type} {P : Program} {w : World} {ops : Array Oper} {rest : List Oper} {o : Oper} {a : Act} {Q : Exit → Act → World → Prop} (hw : Region.wanted o (yielded ops a.tmps) = true) (m : Operand) (t : TypeId) (hop : o.op = Op.call { callee := Callee.builtin Builtin.len, args := #[m], argTypes := #[t] })
    (k e : TypeId) (ht : P.underlying t = some (.map k e)) (R : Value → Option (DataW H × List MemPlace)) (b n : Nat) (D : DataW H) (hm : a.eval m = .map (some b)) (hown : w.ownsMap P k R b n D)
    (hK : wpList P ops Q rest (a.put o.dst (.int .i64 (Maps.size D))) w) :
    wpList P ops Q (o :: rest) a w := by
  refine wpList_step fun K' hK' => ?_
  rw [if_pos hw]
  unfold Oper.wp
  simp [execOp, hop, resolve, invoke, builtin, hm, hown.len ht o.type, Result.andThen]
  exact hK' _ _ hK
end Go.Proofs.Ytbibmncepjmgcaa
