/- What a map says of a sum, over any names of the keys. Maps from diagrams to factors: keys, and what a map says of a sum. A multiple of a diagram is added to a sum: the program's map. Slices of diagrams that the call has made, or nil: rows of seventeen cells; and a byte appended where there is room. maps.Keys over a sum's map: its iterator, for every body of a range over it. A range over a function whose loop variable is a block of its own, made anew in each round; a body that always goes on. slices.AppendSeq and slices.Collect over the diagrams of a sum. -/
import Derived.Test.YtbibmncepjmgcaaKd
import Derived.Maps.Views
import Derived.Test.YtbibmncepjmgcaaKc
import Derived.DeepKeys5
import Derived.Maps.Own
import Derived.Maps.OwnOps
import Derived.Maps.OwnSet
import Derived.WalkArith
import Derived.Test.YtbibmncepjmgcaaKb
import Derived.Maps.AppendAt
import Derived.RangeFuncFrom
import Derived.Sort.MapsRangeIn
import Derived.Sort.KeysCollected
import Derived.WalkKit
import Derived.OwnWalkIn
import Derived.Maps.OwnIn
import Derived.TacticsInMore
import Derived.RegionIn
import Derived.LoopNIn
import Derived.LoopIn
import Derived.Test.YtbibmncepjmgcaaKa
import Derived.RangeFuncNested
import Derived.RangeFuncBound
import Derived.RangeFuncCalls
import Derived.RangeFuncLeaves
import Derived.Shelf.Abstract
namespace Go.Proofs.Ytbibmncepjmgcaa
open Go.RowKit
set_option linter.unusedVariables false
set_option linter.unusedSimpArgs false
def kTm (t : Tm) : Dg := (t.1, t.2.1)
theorem tm_ext {s t : Tm} (h : kTm s = kTm t) (h2 : s.2.2 = t.2.2) : s = t := by
  obtain ⟨a, b, c⟩ := s
  obtain ⟨a', b', c'⟩ := t
  injection h with h1 h3
  cases h1; cases h3; cases h2; rfl
/-- What a map says of a sum: its keys are those of the terms, and each leads to its factor. -/
structure SmrG (ky : Dg → Lit) (D : DataW Unit) (L : List Tm) : Prop where
  has : ∀ kl, Maps.has D kl = true ↔ ∃ t ∈ L, kl = ky (kTm t)
  at_ : ∀ t ∈ L, ∀ z, D.atKey (ky (kTm t)) z = .lit (.int .i64 t.2.2)
theorem nodup_le {α : Type} (a : List α) : ∀ (b : List α), a.Nodup → (∀ x ∈ a, x ∈ b) → a.length ≤ b.length := by
  classical
  induction a with
  | nil => intro b _ _; exact Nat.zero_le _
  | cons x a ih =>
    intro b h hs
    obtain ⟨h1, h2⟩ := List.nodup_cons.1 h
    have hx := hs x (by simp)
    have := ih (b.erase x) h2 (fun y hy => (List.mem_erase_of_ne (by intro e; subst e; exact h1 hy)).2 (hs y (by simp [hy])))
    rw [List.length_erase_of_mem hx] at this
    have := List.length_pos_of_mem hx
    simp
    omega
theorem GoodT.nodup {p : Int} {L : List Tm} (h : GoodT p L) : (L.map kTm).Nodup := by
  rw [List.Nodup, List.pairwise_map]
  refine (List.Pairwise.and_mem.1 h.srt).imp ?_
  rintro a b ⟨ha, hb, hlt⟩ e
  have e' : kTm a = kTm b := e
  have : ltD (kTm a) (kTm b) = true := hlt
  rw [e', linD.irr (kTm b) (h.val b hb)] at this
  cases this
section
variable {ky : Dg → Lit} (hinj : ∀ {a b : Dg}, VD a → VD b → ky a = ky b → a = b) (hkey0 : ∀ {d : Dg}, VD d → Go.WideAt.IsKeyLit (ky d))
theorem fac_some {p : Int} {L : List Tm} (h : GoodT p L) {d : Dg} (hf : fac trmT d L ≠ 0) : ∃ t ∈ L, kTm t = d ∧ t.2.2 = fac trmT d L := by
  have : ¬ ∀ t ∈ L, trmT.key t ≠ d := fun hh => hf (fac_none hh)
  have : ∃ t, t ∈ L ∧ trmT.key t = d := by
    refine Classical.byContradiction fun hh => this (fun t ht e => hh ⟨t, ht, e⟩)
  obtain ⟨t, ht, e⟩ := this
  refine ⟨t, ht, e, ?_⟩
  subst e
  exact (fac_mem linD h ht).symm
include hinj in
theorem SmrG.look {p : Int} {D : DataW Unit} {L : List Tm} (h : SmrG ky D L) (hG : GoodT p L) {d : Dg} (hd : VD d) : D.atKey (ky d) (.lit (.int .i64 0)) = .lit (.int .i64 (fac trmT d L)) := by
  by_cases hf : fac trmT d L = 0
  · rw [hf]
    refine Maps.atKey_of_not_has ?_ _
    cases q : Maps.has D (ky d) with
    | false => rfl
    | true =>
      obtain ⟨t, ht, e⟩ := (h.has _).1 q
      exact absurd (hinj hd (hG.val t ht) e).symm ((fac_zero hG).1 hf t ht)
  · obtain ⟨t, ht, e, e2⟩ := fac_some hG hf
    subst e
    rw [h.at_ t ht, e2]
include hinj hkey0 in
theorem SmrG.put {p : Int} (hp : 0 < p) {D : DataW Unit} {L : List Tm} (h : SmrG ky D L) (hm : Maps.IsMap D) (hG : GoodT p L) {d : Dg} (hd : VD d) (k : Int) (hf : (fac trmT d L + k) % p ≠ 0) : SmrG ky (D.put (ky d) (.lit (.int .i64 ((fac trmT d L + k) % p)))) (addT p d k L) := by
  have hG2 := add_good (k := k) linD hp hd hG
  have hfa := fun e => fac_add (k := k) linD hp hd hG e
  have mem : ∀ {t : Tm}, t ∈ addT p d k L → kTm t ≠ d → t ∈ L := fun {t} ht hne => by
    have h1 : fac trmT (kTm t) (addT p d k L) = t.2.2 := fac_mem linD hG2 ht
    have h2 := hfa (kTm t)
    rw [if_neg hne] at h2
    have h3 : fac trmT (kTm t) L = t.2.2 := by rw [← h2]; exact h1
    have h4 := (hG2.rng t ht).1
    have h4' : 1 ≤ t.2.2 := h4
    obtain ⟨s, hs, e, e2⟩ := fac_some hG (d := kTm t) (by omega)
    have : s = t := tm_ext e (by omega)
    rw [← this]; exact hs
  have mem2 : ∀ {t : Tm}, t ∈ L → kTm t ≠ d → t ∈ addT p d k L := fun {t} ht hne => by
    have h1 : fac trmT (kTm t) L = t.2.2 := fac_mem linD hG ht
    have h2 := hfa (kTm t)
    rw [if_neg hne, h1] at h2
    have h4' : 1 ≤ t.2.2 := (hG.rng t ht).1
    obtain ⟨s, hs, e, e2⟩ := fac_some hG2 (d := kTm t) (by show fac trmT (kTm t) (addL ltD trmT p d k L) ≠ 0; omega)
    have : s = t := tm_ext e (by rw [e2]; exact h2)
    rw [← this]; exact hs
  have hself := hfa d
  rw [if_pos rfl] at hself
  refine ⟨fun kl => ?_, fun t ht z => ?_⟩
  · by_cases e : kl = ky d
    · subst e
      rw [Maps.has_put_same hm (hkey0 hd)]
      refine ⟨fun _ => ?_, fun _ => rfl⟩
      obtain ⟨s, hs, e, e2⟩ := fac_some hG2 (d := d) (by show fac trmT d (addL ltD trmT p d k L) ≠ 0; rw [hself]; exact hf)
      exact ⟨s, hs, by rw [e]⟩
    · rw [Maps.has_put_other e, h.has]
      constructor
      · rintro ⟨t, ht, rfl⟩
        exact ⟨t, mem2 ht (fun h => e (by rw [h])), rfl⟩
      · rintro ⟨t, ht, rfl⟩
        exact ⟨t, mem ht (fun h => e (by rw [h])), rfl⟩
  · by_cases e : kTm t = d
    · rw [e, Maps.atKey_put_same hm (hkey0 hd)]
      have h1 : fac trmT (kTm t) (addT p d k L) = t.2.2 := fac_mem linD hG2 ht
      rw [e] at h1
      rw [← h1]
      show _ = DataW.lit (.int .i64 (fac trmT d (addL ltD trmT p d k L)))
      rw [hself]
    · have hv := hG2.val t ht
      rw [Maps.atKey_put_other (fun h => e (hinj hv hd h))]
      exact h.at_ t (mem ht e) z
include hinj in
theorem SmrG.del {p : Int} (hp : 0 < p) {D : DataW Unit} {L : List Tm} (h : SmrG ky D L) (hG : GoodT p L) {d : Dg} (hd : VD d) (k : Int) (hf : (fac trmT d L + k) % p = 0) : SmrG ky (D.del (ky d)) (addT p d k L) := by
  have hG2 := add_good (k := k) linD hp hd hG
  have hfa := fun e => fac_add (k := k) linD hp hd hG e
  have hself := hfa d
  rw [if_pos rfl, hf] at hself
  have nod : ∀ {t : Tm}, t ∈ addT p d k L → kTm t ≠ d := fun {t} ht e => (fac_zero hG2).1 hself t ht e
  have mem : ∀ {t : Tm}, t ∈ addT p d k L → t ∈ L := fun {t} ht => by
    have hne := nod ht
    have h1 : fac trmT (kTm t) (addT p d k L) = t.2.2 := fac_mem linD hG2 ht
    have h2 := hfa (kTm t)
    rw [if_neg hne] at h2
    have h3 : fac trmT (kTm t) L = t.2.2 := by rw [← h2]; exact h1
    have h4' : 1 ≤ t.2.2 := (hG2.rng t ht).1
    obtain ⟨s, hs, e, e2⟩ := fac_some hG (d := kTm t) (by omega)
    have : s = t := tm_ext e (by omega)
    rw [← this]; exact hs
  have mem2 : ∀ {t : Tm}, t ∈ L → kTm t ≠ d → t ∈ addT p d k L := fun {t} ht hne => by
    have h1 : fac trmT (kTm t) L = t.2.2 := fac_mem linD hG ht
    have h2 := hfa (kTm t)
    rw [if_neg hne, h1] at h2
    have h4' : 1 ≤ t.2.2 := (hG.rng t ht).1
    obtain ⟨s, hs, e, e2⟩ := fac_some hG2 (d := kTm t) (by show fac trmT (kTm t) (addL ltD trmT p d k L) ≠ 0; omega)
    have : s = t := tm_ext e (by rw [e2]; exact h2)
    rw [← this]; exact hs
  refine ⟨fun kl => ?_, fun t ht z => ?_⟩
  · by_cases e : kl = ky d
    · subst e
      rw [Maps.has_del_same]
      refine ⟨fun h => (by cases h), ?_⟩
      rintro ⟨t, ht, e⟩
      exact absurd (hinj hd (hG2.val t ht) e).symm (nod ht)
    · rw [Maps.has_del_other e, h.has]
      constructor
      · rintro ⟨t, ht, rfl⟩
        exact ⟨t, mem2 ht (fun h => e (by rw [h])), rfl⟩
      · rintro ⟨t, ht, rfl⟩
        exact ⟨t, mem ht, rfl⟩
  · have hv := hG2.val t ht
    rw [Maps.atKey_del_other (fun h => nod ht (hinj hv hd h))]
    exact h.at_ t (mem ht) z
include hinj in
theorem SmrG.size {p : Int} {D : DataW Unit} {L : List Tm} (h : SmrG ky D L) (ht : Maps.Tidy D) (hk : ∀ kl, Maps.has D kl = true → True) (hG : GoodT p L) (hkey : ∀ es, D = .map es → ∀ q ∈ es, Go.WideAt.IsKeyLit q.1) : Maps.size D = L.length := by
  obtain ⟨es, rfl, hes⟩ := ht
  rw [Maps.size_eq]
  have hn1 : (es.map Prod.fst).Nodup := by
    rw [List.Nodup, List.pairwise_map]; exact hes
  have hn2 : (L.map (fun t => ky (kTm t))).Nodup := by
    have := hG.nodup
    rw [List.Nodup, List.pairwise_map] at this ⊢
    refine (List.Pairwise.and_mem.1 this).imp ?_
    rintro a b ⟨ha, hb, hne⟩ e
    exact hne (hinj (hG.val a ha) (hG.val b hb) e)
  have hh : ∀ kl, kl ∈ es.map Prod.fst ↔ kl ∈ L.map (fun t => ky (kTm t)) := by
    intro kl
    have h1 := h.has kl
    rw [Maps.has_eq] at h1
    constructor
    · intro hm
      obtain ⟨q, hq, rfl⟩ := List.mem_map.1 hm
      have : es.any (fun r => r.1.sameKey q.1) = true := List.any_eq_true.2 ⟨q, hq, Go.WideAt.sameKey_self (hkey es rfl q hq)⟩
      obtain ⟨t, ht, e⟩ := h1.1 this
      exact List.mem_map.2 ⟨t, ht, e.symm⟩
    · intro hm
      obtain ⟨t, ht, e⟩ := List.mem_map.1 hm
      obtain ⟨q, hq, e2⟩ := List.any_eq_true.1 (h1.2 ⟨t, ht, e.symm⟩)
      exact List.mem_map.2 ⟨q, hq, Go.WideAt.sameKey_eq e2⟩
  have a := nodup_le _ _ hn1 (fun x hx => (hh x).1 hx)
  have b := nodup_le _ _ hn2 (fun x hx => (hh x).2 hx)
  simp at a b
  omega
end
end Go.Proofs.Ytbibmncepjmgcaa
namespace Go.Proofs.Ytbibmncepjmgcaa
open Go.RowKit Go.Lib
open Go.Maps (Keyed)
set_option linter.unusedVariables false
set_option linter.unusedSimpArgs false

theorem keyedD : Keyed Try.prog 53 := Keyed.of_law (deep_law_laid (by kernel_rfl) (m := Try.prog.types.size + 1) (by decide +kernel) (by decide +kernel) (by kernel_rfl) (by kernel_rfl))
theorem kl_int {P : Program} (d : Nat) (t : TypeId) (q : IntKind) (n : Int) (hu : P.underlying t = some (.int q)) (hw : (Lit.int q n).wf = true) : P.keyLits (d + 1) t [.int q n] = some [.int q n] := by
  simp [Program.keyLits, hu, hw]
theorem kl_mates {d : Nat} (ms : List Int) (h : ms.length = 16) (hb : Bytes ms) : Try.prog.keyLits (d + 2) 51 (ms.map (Value.int .u8)) = some (ms.map (Lit.int .u8)) := by
  have hc : Try.prog.cellsOf 51 = 16 := by kernel_rfl
  have hc1 : Try.prog.cellsOf 5 = 1 := by kernel_rfl
  obtain ⟨a0, a1, a2, a3, a4, a5, a6, a7, a8, a9, a10, a11, a12, a13, a14, a15, rfl⟩ := list16 ms h
  have k := fun (x : Int) (hx : 0 ≤ x ∧ x ≤ 255) => kl_int (P := Try.prog) d 5 .u8 x Try.underlying5 (WalkArith.wf_u8 hx)
  have k0 := k a0 (hb a0 (by simp))
  have k1 := k a1 (hb a1 (by simp))
  have k2 := k a2 (hb a2 (by simp))
  have k3 := k a3 (hb a3 (by simp))
  have k4 := k a4 (hb a4 (by simp))
  have k5 := k a5 (hb a5 (by simp))
  have k6 := k a6 (hb a6 (by simp))
  have k7 := k a7 (hb a7 (by simp))
  have k8 := k a8 (hb a8 (by simp))
  have k9 := k a9 (hb a9 (by simp))
  have k10 := k a10 (hb a10 (by simp))
  have k11 := k a11 (hb a11 (by simp))
  have k12 := k a12 (hb a12 (by simp))
  have k13 := k a13 (hb a13 (by simp))
  have k14 := k a14 (hb a14 (by simp))
  have k15 := k a15 (hb a15 (by simp))
  rw [Program.keyLits]
  rotate_right
  exact Try.underlying51
  simp only [hc, hc1]
  rw [if_pos (by rfl), show List.range 16 = [0, 1, 2, 3, 4, 5, 6, 7, 8, 9, 10, 11, 12, 13, 14, 15] from rfl]
  simp only [List.map_cons, List.map_nil, List.mapM_cons, List.mapM_nil, List.drop_succ_cons, List.drop_zero, List.take_succ_cons, List.take_zero, Nat.mul_one, Nat.zero_mul, k0, k1, k2, k3, k4, k5, k6, k7, k8, k9, k10, k11, k12, k13, k14, k15]
  rfl
theorem keyD (n : Int) (ms : List Int) (h : ms.length = 16) (hb : Bytes ms) (hn : 1 ≤ n ∧ n ≤ 8) : ∃ kl, keyOf Try.prog 53 (.agg (dcells n ms)) = some kl := by
  have hk : Try.prog.keyType 53 = true := by kernel_rfl
  have hc : Try.prog.cellsOf 53 = 17 := by kernel_rfl
  have hc1 : Try.prog.cellsOf 2 = 1 := by kernel_rfl
  have hc2 : Try.prog.cellsOf 51 = 16 := by kernel_rfl
  obtain ⟨m, hm⟩ : ∃ m, Try.prog.types.size + 1 = m + 3 := ⟨Try.prog.types.size - 2, by decide +kernel⟩
  have h1 := kl_int (P := Try.prog) (m + 1) 2 .i64 n Try.underlying2 (WalkArith.wf_i64 (by omega))
  have h2 := kl_mates (d := m) ms h hb
  have hs : (dcells n ms).size = 17 := d17 _ _ h
  have h3 : Try.prog.keyLits (m + 3) 53 (.int .i64 n :: ms.map (Value.int .u8)) = some (.int .i64 n :: ms.map (Lit.int .u8)) := by
    rw [Program.keyLits.eq_6]
    rotate_right
    exact Try.underlying53
    simp only [hc]
    rw [if_pos (by simp [h])]
    simp [List.mapM_cons, hc1, hc2, h1, h2, h]
    rw [List.take_of_length_le (by simp [h]), h2]
    simp
  refine ⟨.string (keyBytes (.int .i64 n :: ms.map (Lit.int .u8))), ?_⟩
  unfold keyOf
  rw [Try.underlying53]
  have hf : (Value.agg (dcells n ms)).formed Try.prog 53 = true := by
    unfold Value.formed
    rw [Try.underlying53]
    simp [hc, hs]
  simp only [hk, hf, hm, Bool.and_self, if_true]
  rw [show (Value.agg (dcells n ms)).cells.toList = .int .i64 n :: ms.map (Value.int .u8) by simp [Value.cells, dcells], h3]
  rfl
/-- The key of a diagram. -/
noncomputable def kyD (d : Dg) : Lit := (keyOf Try.prog 53 (.agg (dcells d.1 d.2))).getD (.bool false)
theorem VD.size {d : Dg} (h : VD d) : 1 ≤ d.1 ∧ d.1 ≤ 8 := by
  have := h.1
  unfold isD at this
  rw [Bool.and_eq_true, decide_eq_true_iff] at this
  exact this.1
theorem kyD_vd {d : Dg} (h : VD d) : keyOf Try.prog 53 (.agg (dcells d.1 d.2)) = some (kyD d) := by
  obtain ⟨kl, hk⟩ := keyD d.1 d.2 h.2.1 h.2.2 h.size
  unfold kyD
  rw [hk]; rfl
set_option maxRecDepth 100000 in
theorem kyD_key {d : Dg} (h : VD d) : WideAt.IsKeyLit (kyD d) := keyedD.key (kyD_vd h)
theorem cells_inj {a b : Dg} (h : (Value.agg (dcells a.1 a.2)) = .agg (dcells b.1 b.2)) : a = b := by
  injection h with c
  have c := congrArg Array.toList c
  refine Prod.ext ?_ ?_
  · have := congrArg (fun l => l.head?) c
    simpa [dcells] using this
  · have := congrArg List.tail c
    simp only [dcells] at this
    have h2 : (a.2.map (Value.int .u8)) = (b.2.map (Value.int .u8)) := by simpa using this
    exact (List.map_inj_right (fun x y h => by injection h)).1 h2
theorem kyD_inj {a b : Dg} (ha : VD a) (hb : VD b) (h : kyD a = kyD b) : a = b := by
  have x := kyD_vd ha
  have y := kyD_vd hb
  rw [h] at x
  exact cells_inj (keyedD.inj x y)
abbrev Smr (D : DataW Unit) (L : List Tm) : Prop := SmrG kyD D L
end Go.Proofs.Ytbibmncepjmgcaa
namespace Go.Proofs.Ytbibmncepjmgcaa
open Go.RowKit Go.Lib
open Go.Maps (Keyed)
set_option linter.unusedVariables false
set_option linter.unusedSimpArgs false
/-- Block b is the call's own map that says L. -/
def Smp (w : World) (b nn : Nat) (L : List Tm) : Prop := ∃ D : DataW Unit, w.ownsMap Try.prog 53 (plainElem Try.prog 2) b nn D ∧ Smr D L
theorem Smp.lt {w : World} {b nn : Nat} {L : List Tm} (h : Smp w b nn L) : b < w.heap.size := by obtain ⟨D, h1, _⟩ := h; exact h1.lt
theorem Smp.kept {w w' : World} {b nn : Nat} {L : List Tm} {row : Option Nat} (h : Smp w b nn L) (hg : w.grownBy w' row) (hr : some b ≠ row) : Smp w' b nn L := by
  obtain ⟨D, h1, h2⟩ := h
  exact ⟨D, h1.kept hg hr, h2⟩
theorem Smp.alloc {w : World} {b nn : Nat} {L : List Tm} (h : Smp w b nn L) (o : Obj) : Smp (w.alloc o) b nn L := h.kept (World.grownBy_alloc w o none) (by simp)
theorem Smp.below {w w' : World} {b nn B : Nat} {L : List Tm} (h : Smp w b nn L) (hb : Below B w w') (hB : b < B) : Smp w' b nn L := by
  obtain ⟨D, ⟨es, clock, hh, r⟩, h2⟩ := h
  exact ⟨D, ⟨es, clock, by rw [hb.block b hB]; exact hh, r⟩, h2⟩
theorem Smp.new (w : World) : Smp (w.alloc (.map #[] 0)) w.heap.size 0 [] :=
  ⟨.map [], World.ownsMap_made w _ _ _, ⟨fun kl => by simp [Maps.has], fun t ht => by cases ht⟩⟩
theorem Smp.size {w : World} {b nn : Nat} {p : Int} {L : List Tm} (h : Smp w b nn L) (hG : GoodT p L) : ∃ D : DataW Unit, w.ownsMap Try.prog 53 (plainElem Try.prog 2) b nn D ∧ Smr D L ∧ Maps.size D = L.length := by
  obtain ⟨D, h1, h2⟩ := h
  refine ⟨D, h1, h2, h2.size @kyD_inj (h1.tidy keyedD) (fun _ _ => trivial) hG (fun es e q hq => ?_)⟩
  obtain ⟨es', e', _, hk⟩ := h1.entries keyedD
  rw [e] at e'
  injection e' with e'
  subst e'
  exact hk q hq
set_option maxRecDepth 100000 in
set_option maxHeartbeats 1000000 in
theorem add_any (b nn : Nat) (L : List Tm) (p k n : Int) (ms : List Int) (w : World) (hM : Smp w b nn L) (hG : GoodT p L) (hd : VD (n, ms)) (hp : 2 ≤ p) (hp2 : p ≤ 97) (hk0 : -100000000000 ≤ k) (hk1 : k ≤ 100000000000) (hnn : nn < 1000000000) :
    Calls Try.prog 81 #[.map (some b), .int .i64 p, .agg (dcells n ms), .int .i64 k] w fun e w' => e = .returned (.tuple #[]) ∧ Smp w' b (nn + 1) (addT p (n, ms) k L) ∧ w.grownBy w' (some b) := by
  obtain ⟨D, hO, hS⟩ := hM
  have hpp : 0 < p := by omega
  have hky := Lib.hid (kyD_vd hd)
  have hlk := Lib.hid (hS.look @kyD_inj hG hd)
  have hput := Lib.hid (hS.put @kyD_inj @kyD_key hpp hO.isMap hG hd k)
  have hdel := Lib.hid (hS.del @kyD_inj hpp hG hd k)
  have hfr := fac_rng hpp hG (n, ms)
  have hl := Lib.hid (show ms.length = 16 from hd.2.1)
  obtain ⟨fc, hfc⟩ : ∃ f, fac trmT (n, ms) L = f := ⟨_, rfl⟩
  rw [hfc] at hlk hput hdel hfr
  obtain ⟨R, hR⟩ : ∃ R, addT p (n, ms) k L = R := ⟨_, rfl⟩
  rw [hR] at hput hdel ⊢
  obtain ⟨kl, hkl⟩ : ∃ kl, kyD (n, ms) = kl := ⟨_, rfl⟩
  rw [hkl] at hky hlk hput hdel
  have hrm := Lib.hid (fun w => remI_any p (fc + k) w hp hp2 (by omega) (by omega))
  have s0 := Int.emod_nonneg (fc + k) (show p ≠ 0 by omega)
  have s1 := Int.emod_lt_of_pos (fc + k) hpp
  obtain ⟨z, hz⟩ : ∃ z, (fc + k) % p = z := ⟨_, rfl⟩
  rw [hz] at hput hdel hrm s0 s1
  have hO1 := hO.alloc (.cells (dcells n ms) 53)
  have hbl := hO.lt
  have hml : nn < maxLen := by unfold maxLen; omega
  have hg1 := Lib.hid (World.grownBy_alloc w (.cells (dcells n ms) 53) (some b))
  clear hG hS hO hd hfc hR hkl hz
  go_enter Try.func81, Try.ntmps81
  by_cases h0 : z = 0
  · subst h0
    have hd2 := Lib.hid (hdel.out rfl)
    clear hput hdel
    go_wp2_with (first
      | (refine wpList_load_row rfl 53 _ rfl _ rfl 53 _ (0, 0) _ (Own.new w _ _) Try.underlying53 rfl (row26 (d17 _ _ (hl.out))) ?_)
      | (at_lookup; refine wpList_lookup_own_int _ rfl _ _ 64 rfl 53 2 .i64 keyedD Try.underlying64 Try.underlying2 (by kernel_rfl) b _ _ rfl hO1 _ kl rfl hky.out ?_; intro c hc hw; have hcK : c = fc := (by rw [hlk.out] at hc; injection hc with hc; injection hc with _ hc; exact hc.symm); subst hcK)
      | (go_at_call 89; ((with_reducible refine (hrm.out _).mono ?_); rintro e w9 ⟨rfl, rfl⟩))
      | (refine wpList_delete_own _ rfl _ _ 64 53 rfl 2 keyedD Try.underlying64 _ b _ _ rfl hO1 _ kl rfl hky.out ?_; intro w3 hO3 hT3))
    (try simp only [Exit.inBlock, Exit.then]); refine bodyPost_ret (results_none rfl _ _ _) rfl ?_
    exact ⟨rfl, ⟨_, hO3.mono (by omega), hd2.out⟩, hg1.out.andThen hT3.grown (fun j e => Or.inr e)⟩
  · have hp3 := Lib.hid (hput.out h0)
    have hpe := Lib.hid (plainElem_int (H := Unit) (P := Try.prog) (e := 2) Try.underlying2 (WalkArith.wf_i64 (n := z) (by omega)))
    clear hput hdel
    go_wp2_with (first
      | (refine wpList_load_row rfl 53 _ rfl _ rfl 53 _ (0, 0) _ (Own.new w _ _) Try.underlying53 rfl (row26 (d17 _ _ (hl.out))) ?_)
      | (at_lookup; refine wpList_lookup_own_int _ rfl _ _ 64 rfl 53 2 .i64 keyedD Try.underlying64 Try.underlying2 (by kernel_rfl) b _ _ rfl hO1 _ kl rfl hky.out ?_; intro c hc hw; have hcK : c = fc := (by rw [hlk.out] at hc; injection hc with hc; injection hc with _ hc; exact hc.symm); subst hcK)
      | (go_at_call 89; ((with_reducible refine (hrm.out _).mono ?_); rintro e w9 ⟨rfl, rfl⟩))
      | (at_mapUpdate; refine wpList_mapUpdate_own _ rfl _ _ _ 64 rfl 53 2 keyedD Try.underlying64 _ b nn _ rfl hO1 hml _ _ kl rfl rfl hky.out _ _ hpe.out ?_; intro w3 hO3 hG3))
    go_end0
    exact ⟨rfl, ⟨_, hO3, hp3.out⟩, hg1.out.andThen hG3 (fun j e => Or.inr e)⟩
end Go.Proofs.Ytbibmncepjmgcaa
namespace Go.Proofs.Ytbibmncepjmgcaa
open Go.RowKit
set_option linter.unusedVariables false
set_option linter.unusedSimpArgs false
abbrev DgR := Int × List Int
def drl (ds : List DgR) : List Value := ds.flatMap (fun d => (dcells d.1 d.2).toList)
def LD16 (ds : List DgR) : Prop := ∀ d ∈ ds, d.2.length = 16
theorem drl_app (a b : List DgR) : drl (a ++ b) = drl a ++ drl b := by simp [drl]
theorem drl_len (ds : List DgR) (h : LD16 ds) : (drl ds).length = 17 * ds.length := by
  induction ds with
  | nil => rfl
  | cons d ds ih =>
    have := ih (fun x hx => h x (by simp [hx]))
    show ((dcells d.1 d.2).toList ++ drl ds).length = _
    rw [List.length_append, dl17 (h d (by simp)), this]; simp; omega
theorem drl_get (ds : List DgR) (h : LD16 ds) (i : Nat) (hi : i < ds.length) (j : Nat) (hj : j < 17) : (drl ds)[17 * i + j]? = ((dcells (ds[i]).1 (ds[i]).2).toList)[j]? := by
  induction ds generalizing i with
  | nil => simp at hi
  | cons d ds ih =>
    have h0 := dl17 (n := d.1) (h d (by simp))
    show ((dcells d.1 d.2).toList ++ drl ds)[17 * i + j]? = _
    cases i with
    | zero => rw [List.getElem?_append_left (by omega)]; simp
    | succ i =>
      rw [List.getElem?_append_right (by omega), h0, show 17 * (i + 1) + j - 17 = 17 * i + j by omega]
      simpa using ih (fun x hx => h x (by simp [hx])) i (by simpa using hi)
theorem one_drl (ds : List DgR) : ∀ u ∈ drl ds, u.oneCell' = true := by
  intro u hu
  obtain ⟨d, _, hd⟩ := List.mem_flatMap.1 hu
  have := dcells_one d.1 d.2
  rw [← Array.all_toList, List.all_eq_true] at this
  exact this u hd
/-- A slice of diagrams, as the laws on append see it. -/
def RowD (w : World) (base : Nat) (v : Value) (ds : List DgR) : Prop := w.ownsRow base 53 17 v ds.length (drl ds)
theorem RowD.kept {w w' : World} {base : Nat} {v : Value} {ds : List DgR} (h : RowD w base v ds) (hs : ∀ g, v.ownBlock = some g → w'.heap[g]? = w.heap[g]?) : RowD w' base v ds := by
  obtain ⟨h1, h2 | ⟨g, cap, cur, hv, hg, hh, hn, hcap, hsz, htake⟩⟩ := h
  · exact ⟨h1, .inl h2⟩
  · exact ⟨h1, .inr ⟨g, cap, cur, hv, hg, (hs g (by rw [hv]; rfl)).trans hh, hn, hcap, hsz, htake⟩⟩
theorem RowD.own {w : World} {base : Nat} {v : Value} {ds : List DgR} (h : RowD w base v ds) : ∀ g, v.ownBlock = some g → base ≤ g ∧ g < w.heap.size ∧ ∃ cs, Own w g cs 53 := by
  obtain ⟨h1, ⟨rfl, _⟩ | ⟨g, cap, cur, rfl, hg, hh, hn, hcap, hsz, htake⟩⟩ := h
  · intro r e; cases e
  · intro r e
    cases e; exact ⟨hg, lt_of_block hh, _, hh⟩
theorem RowD.alloc {w : World} {base : Nat} {v : Value} {ds : List DgR} (h : RowD w base v ds) (o : Obj) : RowD (w.alloc o) base v ds :=
  h.kept (fun g e => Below.heap_alloc w o g (h.own g e).2.1)
theorem RowD.below {w w' : World} {base B : Nat} {v : Value} {ds : List DgR} (h : RowD w base v ds) (hb : Below B w w') (hB : w.heap.size ≤ B) : RowD w' base v ds :=
  h.kept (fun g e => hb.block g (Nat.lt_of_lt_of_le (h.own g e).2.1 hB))
theorem RowD.base {w : World} {base base' : Nat} {v : Value} {ds : List DgR} (h : RowD w base v ds) (hb : base' ≤ base) : RowD w base' v ds := by
  obtain ⟨h1, h2 | ⟨g, cap, cur, hv, hg, hh⟩⟩ := h
  · exact ⟨h1, .inl h2⟩
  · exact ⟨h1, .inr ⟨g, cap, cur, hv, Nat.le_trans hb hg, hh⟩⟩
theorem RowD.nil (w : World) (base : Nat) : RowD w base (.slice none 0 0) [] := ⟨rfl, .inl ⟨rfl, rfl⟩⟩
/-- What such a slice is. -/
theorem RowD.shape {w : World} {base : Nat} {v : Value} {ds : List DgR} (h : RowD w base v ds) (h16 : LD16 ds) :
    (v = .slice none 0 0 ∧ ds = []) ∨ ∃ g cap, v = .slice (some ⟨g, 0, none⟩) ds.length cap ∧ base ≤ g ∧ g < w.heap.size ∧ ∀ k, k < ds.length → ∀ j u, (dcells (ds.getD k (0, zeros)).1 (ds.getD k (0, zeros)).2).toList[j]? = some u → w.cell? ((⟨g, 0, none⟩ : Addr).add (k * 17) |>.add j) = some u := by
  obtain ⟨h1, ⟨rfl, h0⟩ | ⟨g, cap, cur, rfl, hg, hh, hn, hcap, hsz, htake⟩⟩ := h
  · exact .inl ⟨rfl, List.length_eq_zero_iff.1 h0⟩
  · have hh' : Own w g cur 53 := hh
    refine .inr ⟨g, cap, rfl, hg, hh'.lt, fun k hk j u hu => ?_⟩
    have hgd : ds.getD k (0, zeros) = ds[k] := by rw [List.getD_eq_getElem?_getD, List.getElem?_eq_getElem hk]; rfl
    rw [hgd] at hu
    have hj : j < 17 := by
      have := (List.getElem?_eq_some_iff.1 hu).1
      rw [dl17 (h16 _ (List.getElem_mem hk))] at this; exact this
    rw [Addr.add_mid, Addr.add_mid, Nat.zero_add, hh'.cell]
    have e : (drl ds)[k * 17 + j]? = some u := by rw [Nat.mul_comm, drl_get ds h16 k hk j hj]; exact hu
    have hlt : k * 17 + j < ds.length * 17 := by omega
    have e2 : (cur.toList.take (ds.length * 17))[k * 17 + j]? = (drl ds)[k * 17 + j]? := by rw [htake]
    rw [List.getElem?_take_of_lt hlt, e] at e2
    simpa using e2
theorem infoD : (Try.prog.info? 53).map (fun i => (i.zero, i.size, i.bytes)) = some (some (.agg zcells), 17, 24) := by kernel_rfl
theorem mksD (n : Int) (ms : List Int) (h : ms.length = 16) (w : World) : (Instr.buildSlice 132 1 #[(0, .agg (dcells n ms))]).run Try.prog w = .ok (.slice (some ⟨w.heap.size, 0, none⟩) 1 1) (w.alloc (.cells (dcells n ms) 53)) := by
  obtain ⟨a0, a1, a2, a3, a4, a5, a6, a7, a8, a9, b0, b1, b2, b3, b4, b5, rfl⟩ := list16 ms h
  kernel_rfl
/-- A slice of one is laid, its run known. -/
theorem wpList_mksl {P : Program} {ops : Array Oper} {rest : List Oper} {o : Oper} {a : Act} {w w' : World} {Q : Exit → Act → World → Prop} (hgd : o.guard = none) (t : TypeId) (x : Operand) (ho : o.op = .buildSlice t 1 #[(0, x)])
    (v u : Value) (hx : a.eval x = v) (hr : (Instr.buildSlice t 1 #[(0, v)]).run P w = .ok u w') (h : wpList P ops Q rest (a.put o.dst u) w') : wpList P ops Q (o :: rest) a w := by
  refine wpList_plain hgd fun _ hK => ?_
  unfold Oper.wp execOp
  simp only [ho, List.map_toArray, List.map_cons, List.map_nil, hx, Sem.run_bind, hr, Result.andThen_ok, Sem.run_pure]
  exact hK _ _ h
theorem wpList_append_rowD {ops : Array Oper} {rest : List Oper} {o : Oper} {a : Act} {w : World} {Q : Exit → Act → World → Prop} (hgd : o.guard = none) (s x : Operand)
    (ho : o.op = .call { callee := .builtin .append, args := #[s, x], argTypes := #[132, 132] })
    (base : Nat) (v : Value) (xs : List DgR) (n : Int) (ms : List Int) (h16 : ms.length = 16) (hs : a.eval s = v) (hi : RowD w base v xs) (g : Nat) (c : Nat)
    (hx : a.eval x = .slice (some ⟨g, 0, none⟩) 1 c) (hy : Own w g (dcells n ms) 53) (hl : xs.length < 2097152) (hbase : base ≤ w.heap.size)
    (h : ∀ v' w', RowD w' base v' (xs ++ [(n, ms)]) → w.grownBy w' v.ownBlock → wpList Try.prog ops Q rest (a.put o.dst v') w') : wpList Try.prog ops Q (o :: rest) a w := by
  obtain ⟨i0, hi0, hz0, hz1, hz2⟩ := info_parts infoD
  refine wpList_append_own_at w hgd s x 132 ho base 53 i0 _ 17 24 Try.underlying132 hi0 hz0 hz1 hz2 (by rfl) (by decide) _ _ _ hs hi ⟨g, 0, none⟩ 1 c (drl [(n, ms)]) hx (by simp [drl, dcells, h16]) (fun j u hu => ?_) (one_drl _) (by unfold maxLen; omega) (by omega) hbase ?_
  · rw [Addr.add_mid, Nat.zero_add, hy.cell]
    simpa [drl] using hu
  · intro v' w' hown hgr hn hat
    rw [← drl_app] at hown
    refine h v' w' ?_ hgr
    unfold RowD
    rw [List.length_append]; exact hown
/-- A byte is appended where there is room. -/
theorem run_append_room (w : World) (ty : TypeId) (base g cap : Nat) (xs : List Int) (y : Int) (hi : Bys w base g cap xs) (ad : Addr) (c : Nat)
    (hy : w.cell? ad = some (.int .u8 y)) (hroom : xs.length + 1 ≤ cap) :
    ∃ w', (Builtin.append_ #[99, 99] ty #[bval g cap xs, .slice (some ad) 1 c]).run Try.prog w = .ok (bval g cap (xs ++ [y])) w' ∧ Bys w' base g cap (xs ++ [y]) ∧ w.grownBy w' (some g) := by
  obtain ⟨i0, hi0, hz0, hz1, hz2⟩ := info_parts info8
  obtain ⟨h1, h2, h3, cur, ho, hs, ht⟩ := hi
  have hnews : ∀ j u, ([Value.int .u8 y] : List Value)[j]? = some u → w.cell? (ad.add j) = some u := by
    intro j u hj
    match j, hj with
    | 0, hj =>
      simp at hj; subst hj
      have e : ad.add 0 = ad := by unfold Addr.add; split <;> simp_all
      rw [e]; exact hy
    | j + 1, hj => simp at hj
  have hu := Try.underlying99
  have hf := run_firstCells_some (P := Try.prog) w i0.size 1 ad 1 c [.int .u8 y] (by rw [hz1]; rfl) hnews
  rw [hz1] at hf
  have hcell : w.cell? ⟨g, xs.length, none⟩ = some (cur[xs.length]'(by omega)) := by rw [ho.cell, Array.getElem?_eq_getElem (by omega)]
  have hadd : (⟨g, xs.length, none⟩ : Addr).add 0 = ⟨g, xs.length, none⟩ := by unfold Addr.add; split <;> simp_all
  have hst : (storeCells ⟨g, xs.length, none⟩ [Value.int .u8 y] 0).run Try.prog w = .ok () (w.setCell ⟨g, xs.length, none⟩ (.int .u8 y)) := by
    have : (store ((⟨g, xs.length, none⟩ : Addr).add 0) (Value.int .u8 y)).run Try.prog w = .ok () (w.setCell ⟨g, xs.length, none⟩ (.int .u8 y)) := by
      rw [hadd, run_store Try.prog w _ (Value.int .u8 y) _ rfl, hcell]
      simp [ho.free]
    simp only [storeCells, Sem.run_bind, this, Result.andThen_ok, Sem.run_pure]
  have hr : (Builtin.append_ #[99, 99] ty #[bval g cap xs, .slice (some ad) 1 c]).run Try.prog w =
      .ok (.slice (some ⟨g, 0, none⟩) (xs.length + 1) cap) (w.setCell ⟨g, xs.length, none⟩ (.int .u8 y)) := by
    simp [bval, Builtin.append_, run_underlying hu, sizeOf, typeInfo, hi0, Builtin.lenOf, hroom, hf, Addr.add_lit, hz1, hst]
  refine ⟨w.setCell ⟨g, xs.length, none⟩ (.int .u8 y), by rw [hr]; simp [bval], ⟨h1, by simpa using hroom, h3, _, ho.set xs.length (.int .u8 y), by simpa using hs, ?_⟩, ⟨rfl, rfl, rfl, by simp [World.setCell], fun k _ hk => Below.heap_setCell _ _ _ _ (fun e => hk (by simp [e]))⟩⟩
  rw [Array.toList_setIfInBounds]
  apply List.ext_getElem?
  intro i
  have e : ∀ i, i < xs.length → cur.toList[i]? = (xs.map (Value.int .u8))[i]? := fun i hi => by
    have : (cur.toList.take xs.length)[i]? = (xs.map (Value.int .u8))[i]? := by rw [ht]
    rwa [List.getElem?_take_of_lt hi] at this
  by_cases c1 : i < xs.length + 1
  · rw [List.getElem?_take_of_lt (by simpa using c1), List.getElem?_set]
    by_cases c2 : xs.length = i
    · subst c2
      rw [if_pos rfl, if_pos (by simp; omega)]
      simp
    · rw [if_neg c2, e i (by omega), List.map_append, List.getElem?_append_left (by simp; omega)]
  · rw [List.getElem?_eq_none (by simp; omega), List.getElem?_eq_none (by simp; omega)]
theorem wpList_append_room {ops : Array Oper} {rest : List Oper} {o : Oper} {a : Act} {w : World} {Q : Exit → Act → World → Prop} (hgd : o.guard = none) (s x : Operand)
    (ho : o.op = .call { callee := .builtin .append, args := #[s, x], argTypes := #[99, 99] })
    (base g cap : Nat) (xs : List Int) (y : Int) (hs : a.eval s = bval g cap xs) (hi : Bys w base g cap xs) (ad : Addr) (c : Nat)
    (hx : a.eval x = .slice (some ad) 1 c) (hy : w.cell? ad = some (.int .u8 y)) (hroom : xs.length + 1 ≤ cap)
    (h : ∀ w', Bys w' base g cap (xs ++ [y]) → w.grownBy w' (some g) → wpList Try.prog ops Q rest (a.put o.dst (bval g cap (xs ++ [y]))) w') : wpList Try.prog ops Q (o :: rest) a w := by
  refine wpList_plain hgd fun K hK => ?_
  obtain ⟨w', hr, hB, hG⟩ := run_append_room w o.type base g cap xs y hi ad c hy hroom
  unfold Oper.wp execOp
  simp only [ho, resolve, invoke, builtin, Sem.run_bind, Sem.run_pure, Result.andThen_ok, List.map_toArray, List.map_cons, List.map_nil, hs, hx, hr]
  exact hK _ _ (h w' hB hG)
end Go.Proofs.Ytbibmncepjmgcaa
namespace Go.Proofs.Ytbibmncepjmgcaa
open Go.RowKit Go.Lib
open Go.Maps (Keyed)
attribute [local go_sem] Oper.semAt_some
set_option linter.unusedVariables false
set_option linter.unusedSimpArgs false
section
variable {F : Fence} {n : Nat} {P : Program} {ops : Array Oper} {rest : List Oper} {o : Oper} {a : Act} {w : World} {Q : Exit → Act → World → Prop}
theorem wpListIn_load_row (hgd : o.guard = none) (ty : TypeId) (x : Operand) (ho : o.op = .load ty x)
    (g : Nat) (hx : a.eval x = .pointer (some ⟨g, 0, none⟩)) (t : TypeId) (cs : Array Value) (fr : Nat × Nat) (d : TypeDesc) (hg : w.heap[g]? = some (.cells cs t fr))
    (hu : P.underlying ty = some d) (hd : (match d with | .struct _ | .array _ _ => true | _ => false) = true) (hi : (P.info? ty).map (·.size) = some cs.size)
    (h : wpListIn F n P ops Q rest (a.put o.dst (.agg cs)) w) : wpListIn F n P ops Q (o :: rest) a w := by
  refine wpListIn_plain hgd fun K hK => ?_
  unfold Oper.wpIn
  refine ⟨by simp [Oper.about, ho], ?_⟩
  rw [Oper.semAt_plain F _ _ (by rw [ho]; intro c hc'; cases hc')]
  simp only [execOp, ho, hx, Instr.loadAt, Instr.sureAddr, Sem.run_bind, Sem.run_pure, Result.andThen_ok, run_loadVar_row w g t ty cs fr d hg hu hd hi]
  exact hK _ _ h
theorem wpListIn_store_own (hgd : o.guard = none) (ty : TypeId) (x y : Operand) (ho : o.op = .store ty x y)
    (g : Nat) (cells : Array Value) (hx : a.eval x = .pointer (some ⟨g, 0, none⟩)) (hy : a.eval y = .agg cells)
    (t : TypeId) (old : Array Value) (hg : Own w g old t) (hi : (P.info? ty).map (·.size) = some cells.size)
    (hold : old.size = cells.size) (h1 : cells.all (·.oneCell') = true)
    (h : ∀ w', Own w' g cells t → Only g w w' → w.grownBy w' (some g) → wpListIn F n P ops Q rest (a.put o.dst undef) w') : wpListIn F n P ops Q (o :: rest) a w := by
  refine wpListIn_plain hgd fun K hK => ?_
  unfold Oper.wpIn
  refine ⟨by simp [Oper.about, ho], ?_⟩
  rw [Oper.semAt_plain F _ _ (by rw [ho]; intro c hc'; cases hc')]
  simp only [execOp, ho, hx, hy, Instr.storeAt, Instr.sureAddr, Sem.run_bind, Sem.run_pure, Result.andThen_ok, run_storeVar_row w g t ty old cells hg hi hold h1]
  exact hK _ _ (h _ (hg.row _) (Only.row _ _ _) ⟨rfl, rfl, rfl, by simp [World.setRow], fun k _ hk => (Only.row w g cells).other k (fun e => hk (by rw [e]))⟩)
theorem wpListIn_mksl {w' : World} (hgd : o.guard = none) (t : TypeId) (x : Operand) (ho : o.op = .buildSlice t 1 #[(0, x)])
    (v u : Value) (hx : a.eval x = v) (hr : (Instr.buildSlice t 1 #[(0, v)]).run P w = .ok u w') (h : wpListIn F n P ops Q rest (a.put o.dst u) w') : wpListIn F n P ops Q (o :: rest) a w := by
  refine wpListIn_plain hgd fun K hK => ?_
  unfold Oper.wpIn
  refine ⟨by simp [Oper.about, ho], ?_⟩
  rw [Oper.semAt_plain F _ _ (by rw [ho]; intro c hc'; cases hc')]
  simp only [execOp, ho, List.map_toArray, List.map_cons, List.map_nil, hx, Sem.run_bind, hr, Result.andThen_ok, Sem.run_pure]
  exact hK _ _ h
end
/-- The diagrams. -/
abbrev DgV := {d : Dg // VD d}
def dvs (d : DgV) : Array Value := #[.agg (dcells d.1.1 d.1.2)]
/-- What has come of a map's keys. -/
def ColD (D : DataW Unit) (left : Lit → Bool) (ss : List DgV) : Prop := ss.Nodup ∧ ∀ d : DgV, d ∈ ss ↔ (Maps.has D (kyD d.1) = true ∧ left (kyD d.1) = false)
theorem ColD.start (D : DataW Unit) : ColD D (Maps.has D) [] := ⟨List.nodup_nil, fun d => by cases Maps.has D (kyD d.1) <;> simp⟩
set_option maxRecDepth 100000 in
theorem ColD.step {D : DataW Unit} {left : Lit → Bool} {ss : List DgV} (h : ColD D left ss) {d : DgV} (hlk : left (kyD d.1) = true) (hhas : Maps.has D (kyD d.1) = true) : ColD D (fun z => left z && !z.sameKey (kyD d.1)) (ss ++ [d]) := by
  have hnew : d ∉ ss := fun hx => by have := ((h.2 d).1 hx).2; rw [hlk] at this; cases this
  refine ⟨List.nodup_append.2 ⟨h.1, by simp, fun a ha b hb => by simp at hb; subst hb; exact fun e => hnew (e ▸ ha)⟩, fun y => ?_⟩
  by_cases hy : y = d
  · subst hy; simp [hhas, WideAt.sameKey_self (kyD_key y.2)]
  · have hk : (kyD y.1).sameKey (kyD d.1) = false := by
      cases q : (kyD y.1).sameKey (kyD d.1) with
      | false => rfl
      | true => exact absurd (Subtype.ext (kyD_inj y.2 d.2 (WideAt.sameKey_eq q))) hy
    simp [h.2 y, hy, hk]
set_option maxRecDepth 100000 in
set_option maxHeartbeats 4000000 in
theorem keyIt_in (F : Fence) (n : Nat) (hf : F.fn 126) (hro : F.round = none) (hn : 1 ≤ n) (l Bm b nn : Nat) (D : DataW Unit) (L : List Tm) (p : Int) (hS : Smr D L) (hG : GoodT p L)
    (J Jx : List DgV → World → Prop)
    (hY : ∀ pre x W, J pre W → pre.length < Maps.size D → YieldAt F (n - 1) Try.prog l (dvs x) W fun e W' =>
      (e = .returned (.bool true) ∧ J (pre ++ [x]) W' ∧ KeepsWalks W W') ∨ (e = .returned (.bool false) ∧ Jx (pre ++ [x]) W'))
    (W : World) (hJ : AbidesFrom W.heap.size J) (hm : W.cell? ⟨Bm, 0, none⟩ = some (.map (some b))) (hown : W.ownsMap Try.prog 53 (plainElem Try.prog 2) b nn D) (h0 : J [] W) :
    CallsIn F n Try.prog 126 #[.func (.yield l) #[] #[], .pointer (some ⟨Bm, 0, none⟩)] W fun e W' => (∃ v, e = .returned v) ∧
      ((∃ ss : List DgV, (ss.Nodup ∧ ∀ d : DgV, d ∈ ss ↔ Maps.has D (kyD d.1) = true) ∧ J ss W') ∨ (∃ pre : List DgV, True ∧ Jx pre W')) := by
  refine callsIn_of_wp Try.func126 rfl hf ?_ hro
  simp only [Try.ntmps126, List.size_toArray, List.length_cons, List.length_nil, Nat.reduceAdd, Nat.reduceSub, Array.replicate_succ, Array.replicate_zero, List.push_toArray, List.append_toArray, List.nil_append, List.cons_append]
  gi_wp2_with (first
    | (gi_at_range; refine wpListIn_range_own _ rfl _ 64 rfl 53 2 keyedD Try.underlying64 _ b nn _ rfl hown ?_; intro w0 hrg0 hg0 hs0)
    | gi_in)
  go_frame
  gi_loopw [6] (fun _ wr => ∃ (left : Lit → Bool) (cnt : Nat) (ss : List DgV), wr.ranges Try.prog 53 (plainElem Try.prog 2) b W.heap.size nn D left cnt ∧ ss.length + cnt ≤ Maps.size D ∧ ColD D left ss ∧ J ss wr)
    (fun _ wr => wr.rangeLeft b W.heap.size)
  case atStart =>
    exact ⟨_, _, [], hrg0, by simp, ColD.start D, hJ [] W w0 none h0 hg0 (fun r e => by cases e)⟩
  case round =>
    obtain ⟨left, cnt, ss, hrg, hcs, hC, hJs⟩ := hrel
    gi_wp2_with (first
      | (gi_at_next; refine wpListIn_next_ranges _ rfl _ rfl 53 keyedD (plainElem Try.prog 2) id id (fun key kl hk => ⟨key, rfl⟩) (fun v _ _ => ⟨v, rfl⟩) b W.heap.size nn _ _ _ rfl hrg ?_ ?_)
      | gi_in)
    · -- NOTHING IS LEFT
      intro hc0 hl0
      gi_wp2
      go_end0
      exact ⟨⟨_, rfl⟩, .inl ⟨ss, ⟨hC.1, fun x => by rw [hC.2 x, hl0]; simp⟩, hJs⟩⟩
    · -- AN ENTRY HAS COME
      intro x c kl yd yp w2 cnt2 hkey hlk hv hat hrg2 hlt hg2 hs2 hen
      have hhas : Maps.has D kl = true := Maps.has_true_of_atKey hat
      obtain ⟨t, ht, rfl⟩ := (hS.has _).1 hhas
      have hvd := hG.val t ht
      obtain rfl : x = .agg (dcells (kTm t).1 (kTm t).2) := keyedD.inj hkey (kyD_vd hvd)
      have hJ2 : J ss w2 := hJ ss wr w2 (some W.heap.size) hJs hg2 (fun r e => by cases e; exact ⟨Nat.le_refl _, hrg.iter_walk⟩)
      clear hs2
      obtain ⟨d, hd⟩ : ∃ d, kTm t = d := ⟨_, rfl⟩
      rw [hd] at hlk hat hrg2 hhas hen hkey
      have hvd' : VD d := by rw [← hd]; exact hvd
      clear hvd
      have hC2 := Lib.hid (hC.step (d := ⟨d, hvd'⟩) hlk hhas)
      obtain ⟨n', ms'⟩ := d
      have hl := Lib.hid (show ms'.length = 16 from hvd'.2.1)
      have hO1 : Own (w2.alloc (.cells zcells 53)) w2.heap.size zcells 53 := Own.new w2 _ _
      have hg1 := World.grownBy_alloc w2 (.cells zcells 53) none
      have hz1 : (w2.alloc (.cells zcells 53)).heap.size = w2.heap.size + 1 := by simp
      have hk1 : KeepsWalks w2 (w2.alloc (.cells zcells 53)) := KeepsWalks.alloc _ _
      gi_wp2_with (first
        | (refine wpListIn_store_own rfl 53 _ _ rfl _ _ rfl rfl 53 _ hO1 (row26 (d17 _ _ hl.out)) (dz _ _ hl.out) (dcells_one _ _) ?_; intro w3 hO3 hN3 hg3; have hg4 : w2.grownBy w3 none := hg1.andThen hg3 (fun j e => by cases e; exact .inl (Nat.le_refl _)); have hk4 : KeepsWalks w2 w3 := hk1.trans (KeepsWalks.of_grownBy hg3 (fun j o e ho => by cases e; rw [hO1] at ho; cases ho; rfl)); have hJ3 : J ss w3 := hJ ss w2 w3 none hJ2 hg4 (fun r e => by cases e); obtain ⟨fn, tmps, assign, body, hy, hR⟩ := hY ss ⟨(n', ms'), hvd'⟩ w3 hJ3 (by omega); simp only [dvs] at hy; have hrg3 := hrg2.of_walks hk4; clear hg4 hk4 hg3 hk1 hg1 hz1)
        | (refine wpListIn_load_row rfl 53 _ rfl _ rfl 53 _ (0, 0) _ hO3 Try.underlying53 rfl (row26 (d17 _ _ hl.out)) ?_)
        | gi_in)
      refine hR.mono ?_
      rintro e W3 (⟨rfl, hJ4, hk3⟩ | ⟨rfl, hJx3⟩)
      · gi_wp2
        have hrg4 := hrg3.of_walks hk3
        go_roundw
        case rel => exact ⟨_, cnt2, ss ++ [⟨(n', ms'), hvd'⟩], hrg4, by simp; omega, hC2.out, hJ4⟩
        case measure => rw [hrg4.left_eq, hrg.left_eq]; exact hlt
      · gi_wp2
        refine bodyPost_ret (results_none rfl _ _ _) rfl ?_
        exact ⟨⟨_, rfl⟩, .inr ⟨_, trivial, hJx3⟩⟩
/-- **maps.Keys gives the diagrams of a sum, each once.** -/
theorem keys_stops (F : Fence) (n : Nat) (hf : F.fn 126) (hro : F.round = none) (hn : 1 ≤ n) (Bm b nn : Nat) (L : List Tm) (p : Int) (hG : GoodT p L) (w : World)
    (hBm : Bm < w.heap.size) (hm : w.cell? ⟨Bm, 0, none⟩ = some (.map (some b))) (hM : Smp w b nn L) :
    SeqStopsK F n Try.prog 126 #[.pointer (some ⟨Bm, 0, none⟩)] dvs KeepsWalks (fun ss => ss.Nodup ∧ ∀ d : DgV, d ∈ ss ↔ d.1 ∈ L.map kTm) (fun _ => True) L.length w := by
  obtain ⟨D, hO, hS, hz⟩ := hM.size hG
  intro l J Jx W hW hJ _ hY h0
  have hown' : W.ownsMap Try.prog 53 (plainElem Try.prog 2) b nn D := by
    have hbl := hO.lt
    obtain ⟨es, clock, hb, Ft, hs, hD⟩ := hO
    exact ⟨es, clock, (hW.block b hbl).trans hb, Ft, hs, hD⟩
  rw [← hz] at hY
  refine (keyIt_in F n hf hro hn l Bm b nn D L p hS hG J Jx hY W hJ ((hW.cell (p := ⟨Bm, 0, none⟩) hBm).trans hm) hown' h0).mono ?_
  rintro e W' ⟨hv, hr⟩
  refine ⟨hv, ?_⟩
  rcases hr with ⟨ss, ⟨h1, h2⟩, h3⟩ | ⟨pre, h1, h2⟩
  · refine .inl ⟨ss, ⟨h1, fun d => (h2 d).trans ((hS.has _).trans ?_)⟩, h3⟩
    rw [List.mem_map]
    constructor
    · rintro ⟨t, ht, e⟩
      exact ⟨t, ht, (kyD_inj d.2 (hG.val t ht) e).symm⟩
    · rintro ⟨t, ht, e⟩
      exact ⟨t, ht, by rw [e]⟩
  · exact .inr ⟨pre, trivial, h2⟩
set_option maxHeartbeats 1000000 in
theorem keys_any (b : Nat) (w : World) :
    Calls Try.prog 122 #[.map (some b)] w fun e w' => e = .returned (.func (.func 126) #[] #[.pointer (some ⟨w.heap.size, 0, none⟩)]) ∧ w' = w.alloc (.cells #[.map (some b)] 64) := by
  go_enter Try.func122, Try.ntmps122
  go_wp2
  go_ret
  exact ⟨rfl, rfl⟩
end Go.Proofs.Ytbibmncepjmgcaa
namespace Go
open Go.RowKit
set_option linter.unusedVariables false
section
variable {F : Fence} {n : Nat} {P : Program}
/-- Where a round's body goes on. -/
def varPost {α : Type} (I : List α → World → Prop) (xs : List α) (W : World) : Exit → Act → World → Prop
  | .normal, _, W' => KeepsOthers W W' ∧ I xs W'
  | _, _, _ => False
theorem wpIn_rangeFunc_var {α : Type} {g : Operand} {ps : Array Tmp} {assign body : Code} {Q : Exit → Act → World → Prop} {a : Act} {w : World}
    (hro : F.round = none) (h1 : 1 ≤ n) {gf : Nat} {lb : Array Value} (hg : a.eval g = .func (.func gf) #[] lb) (hFg : F.fn gf) (eg : ∀ args w, (callFunc gf args).run P w = .ok (.enter gf args) w)
    {encs : α → Array Value} {S Sp : List α → Prop} {N : Nat} {w0 : World} (hseq : SeqStopsK F (n - 1) P gf lb encs KeepsWalks S Sp N w0) (hb0 : Below w0.heap.size w0 w) (hps : ∀ x, (encs x).size = ps.size)
    (I : List α → World → Prop) (hI : OwnFrom w.heap.size I) (h0 : I [] w)
    (As : Act → α → World → Prop) (hAs : ∀ a1, OwnFrom w.heap.size (As a1))
    (hassign : ∀ (l : Nat) (x : α) (W : World) (K : Act → World → Prop), (∀ a1 W1, As a1 x W1 → W.grownBy W1 none → K a1 W1) →
      assign.wpIn (F.inRound l) (n - 1 - 1) P (Exit.then K (fun _ _ _ => False)) { tmps := (ps.zip (encs x)).foldl (fun t (p, v) => t.setIfInBounds p v) a.tmps, defers := [] } W)
    (hbody : ∀ (l : Nat) (pre : List α) (x : α) (a1 : Act) (W : World), I pre W → pre.length < N → As a1 x W → body.wpIn (F.inRound l) (n - 1 - 1) P (varPost I (pre ++ [x]) W) a1 W)
    (hdone : ∀ (D : Nat) (xs : List α) (W : World), w.heap.size ≤ D → S xs → I xs W → W.heap[D]? = some (.deferred (some [])) → Q .normal { a with defers := { target := .collected D, args := #[] } :: a.defers } W) :
    (Code.rangeFunc g ps assign body).wpIn F n P Q a w := by
  refine wpIn_rangeFunc fun fn hfn => ?_
  rw [hro]
  obtain ⟨rc, hrc⟩ : ∃ rc : LoopState → Loop, rc = fun st => { state := st, pending := none, fn, tmps := a.tmps, params := ps, assign, body, defers := w.heap.size } := ⟨_, rfl⟩
  obtain ⟨W1, hW1⟩ : ∃ W1, (w.alloc (.deferred (some []))).alloc (.loop (rc .ready)) = W1 := ⟨_, rfl⟩
  have z1 : W1.heap.size = w.heap.size + 2 := by rw [← hW1]; simp
  have l1 : W1.heap[w.heap.size + 1]? = some (.loop (rc .ready)) := by
    rw [← hW1]; have := World.alloc_heap_new (w.alloc (.deferred (some []))) (.loop (rc .ready)); rwa [World.size_alloc] at this
  have d1 : W1.heap[w.heap.size]? = some (.deferred (some [])) := by
    rw [← hW1]; exact (Below.heap_alloc _ _ _ (by simp)).trans (World.alloc_heap_new w _)
  have i1 : I [] W1 := by rw [← hW1]; exact hI.alloc _ (hI.alloc _ h0)
  have b1 : Below w0.heap.size w0 W1 := by
    rw [← hW1]; exact hb0.trans ((((Below.refl _ w).alloc (Nat.le_refl _) _).alloc (by simp) _).mono hb0.size)
  refine ⟨w.heap.size + 1, [{ target := .collected w.heap.size, args := #[] }], W1, { target := .fn (.func gf) lb, args := #[.func (.yield (w.heap.size + 1)) #[] #[]] }, W1, gf,
    #[.func (.yield (w.heap.size + 1)) #[] #[]] ++ lb, W1, by rw [← hW1, hrc]; exact run_enterLoop_outer _ _ _ _ _, by simp only [resolve, hg]; simp [go_sem], ?_, by simp [invoke, go_sem, eg], fun _ => h1, ?_⟩
  · intro f' hf'; simp [Target.leads] at hf'; subst hf'; exact hFg
  have walkC : ∀ {A : World} {r : Nat}, (∃ o : Obj, A.heap[r]? = some o ∧ o.isWalk = true) → ∃ o : Obj, A.heap[r]? = some o ∧ o.isCells = false := fun ⟨o, ho, hw⟩ => ⟨o, ho, Obj.not_cells_of_walk hw⟩
  refine (hseq (w.heap.size + 1) (fun pre W => I pre W ∧ W.heap[w.heap.size + 1]? = some (.loop (rc .ready)) ∧ W.heap[w.heap.size]? = some (.deferred (some []))) (fun _ _ => False) W1 b1 ?_ (fun _ _ _ _ h _ _ => h) ?_ ⟨i1, l1, d1⟩).mono ?_
  · rintro pre A B row ⟨hi, hl, hd⟩ hg' hr
    exact ⟨hI _ _ _ row hi hg' (fun r e => ⟨by have := (hr r e).1; omega, walkC (hr r e).2⟩), (grownBy_keeps hg' (fun r e => (hr r e).2) hl rfl).trans hl, (grownBy_keeps hg' (fun r e => (hr r e).2) hd rfl).trans hd⟩
  · rintro pre x W ⟨hi, hl, hd⟩ hlen
    have hlt : w.heap.size + 1 < W.heap.size := (Array.getElem?_eq_some_iff.1 hl).1
    have hy := run_yield (P := P) (args := encs x) hl (by rw [hrc]; exact hps x)
    rw [hrc] at hy
    refine ⟨fn, _, assign, body, hy, roundIn_of_wpIn hfn (hassign _ x W _ (fun a1 V hA hgV => ?_))⟩
    have lV : V.heap[w.heap.size + 1]? = some (.loop (rc .ready)) := (hgV.block _ hlt (by simp)).trans hl
    have dV : V.heap[w.heap.size]? = some (.deferred (some [])) := (hgV.block _ (by omega) (by simp)).trans hd
    have iV : I pre V := hI _ _ _ none hi hgV (fun r e => by cases e)
    have hltV : w.heap.size + 1 < V.heap.size := (Array.getElem?_eq_some_iff.1 lV).1
    have kV : KeepsWalks W V := KeepsWalks.of_grownBy hgV (fun j o e => by cases e)
    refine ⟨_, run_beginRound lV (by rw [hrc]), ?_⟩
    obtain ⟨W2, hW2⟩ : ∃ W2, V.putObj (w.heap.size + 1) (.loop { rc .ready with state := .busy }) = W2 := ⟨_, rfl⟩
    rw [hW2]
    have l2 : W2.heap[w.heap.size + 1]? = some (.loop { rc .ready with state := .busy }) := by rw [← hW2]; exact World.putObj_heap_same hltV
    have d2 : W2.heap[w.heap.size]? = some (.deferred (some [])) := by rw [← hW2]; exact (World.putObj_heap_other (by omega)).trans dV
    have i2 : I pre W2 := by rw [← hW2]; exact hI.putObj _ iV (by omega) lV rfl
    have a2 : As a1 x W2 := by rw [← hW2]; exact (hAs a1).putObj _ hA (by omega) lV rfl
    have k2 : KeepsWalks V W2 := by rw [← hW2]; exact KeepsWalks.putObj _ lV rfl
    refine wpIn_mono (hbody _ pre x a1 W2 i2 hlen a2) ?_
    rintro e a3 W3 hp
    cases e with
    | normal =>
      obtain ⟨hk, hi3⟩ := hp
      have l3 : W3.heap[w.heap.size + 1]? = some (.loop { rc .ready with state := .busy }) := hk.same _ _ l2 rfl
      have d3 : W3.heap[w.heap.size]? = some (.deferred (some [])) := hk.same _ _ d2 rfl
      have hr := run_endRound (P := P) none l3
      rw [hrc] at hr l3
      refine ⟨_, _, hr, .inl ⟨rfl, ⟨hI.putObj _ hi3 (by omega) l3 rfl, ?_, ?_⟩, ((kV.trans k2).trans hk.walks).trans (KeepsWalks.putObj _ l3 rfl)⟩⟩
      · rw [World.putObj_heap_same (Array.getElem?_eq_some_iff.1 l3).1, hrc]; rfl
      · rw [World.putObj_heap_other (by omega)]; exact d3
    | ret => exact hp.elim
    | exit id => exact hp.elim
    | goto t => exact hp.elim
    | panic ch => exact hp.elim
    | outgrown => exact hp.elim
  · rintro e W2 ⟨⟨v, rfl⟩, (⟨xs, hS, hi, hl, hd⟩ | ⟨pre, hSp, hf⟩)⟩
    · have hq : (W2.putObj (w.heap.size + 1) (.loop { rc .ready with state := .exhausted })).heap[w.heap.size]? = some (.deferred (some [])) := (World.putObj_heap_other (by omega)).trans hd
      refine ⟨none, _, ?_, hdone _ xs _ (Nat.le_refl _) hS (hI.putObj _ hi (by omega) hl rfl) hq⟩
      have := run_endLoop (P := P) hl (by rw [hrc]; simp)
      rw [hrc] at this ⊢
      exact this
    · exact hf.elim
end
end Go
namespace Go.Proofs.Ytbibmncepjmgcaa
open Go.RowKit Go.Lib
attribute [local go_sem] Oper.semAt_some
set_option linter.unusedVariables false
set_option linter.unusedSimpArgs false
theorem wpListIn_append_rowD {F : Fence} {n : Nat} {ops : Array Oper} {rest : List Oper} {o : Oper} {a : Act} {w : World} {Q : Exit → Act → World → Prop} (hgd : o.guard = none) (s x : Operand)
    (ho : o.op = .call { callee := .builtin .append, args := #[s, x], argTypes := #[132, 132] })
    (base : Nat) (v : Value) (xs : List DgR) (k : Int) (ms : List Int) (h16 : ms.length = 16) (hs : a.eval s = v) (hi : RowD w base v xs) (g : Nat) (c : Nat)
    (hx : a.eval x = .slice (some ⟨g, 0, none⟩) 1 c) (hy : Own w g (dcells k ms) 53) (hl : xs.length < 2097152) (hbase : base ≤ w.heap.size)
    (h : ∀ v' w', RowD w' base v' (xs ++ [(k, ms)]) → w.grownBy w' v.ownBlock → wpListIn F n Try.prog ops Q rest (a.put o.dst v') w') : wpListIn F n Try.prog ops Q (o :: rest) a w := by
  obtain ⟨i0, hi0, hz0, hz1, hz2⟩ := info_parts infoD
  refine wpListIn_append_own_at w hgd s x 132 ho base 53 i0 _ 17 24 Try.underlying132 hi0 hz0 hz1 hz2 (by rfl) (by decide) _ _ _ hs hi ⟨g, 0, none⟩ 1 c (drl [(k, ms)]) hx (by simp [drl, dcells, h16]) (fun j u hu => ?_) (one_drl _) (by unfold maxLen; omega) (by omega) hbase ?_
  · rw [Addr.add_mid, Nat.zero_add, hy.cell]
    simpa [drl] using hu
  · intro v' w' hown hgr hn hat
    rw [← drl_app] at hown
    refine h v' w' ?_ hgr
    unfold RowD
    rw [List.length_append]; exact hown
/-- What has come, as diagrams. -/
def dls (ss : List DgV) : List DgR := ss.map (·.1)
theorem dls_app (ss : List DgV) (d : DgV) : dls (ss ++ [d]) = dls ss ++ [d.1] := by simp [dls]
/-- Between two rounds: the variable's block holds the slice. -/
def ApI (w0 : World) (B : Nat) (ss : List DgV) (W : World) : Prop := ∃ v, Own W B #[v] 132 ∧ RowD W w0.heap.size v (dls ss) ∧ Below w0.heap.size w0 W
theorem notcell_ne {W : World} {r g : Nat} {cs : Array Value} {t : TypeId} (h : Own W g cs t) (hr : ∃ o : Obj, W.heap[r]? = some o ∧ o.isCells = false) : g ≠ r := by
  rintro rfl
  obtain ⟨o, ho, hc⟩ := hr
  have h' : W.heap[g]? = some (.cells cs t (0, 0)) := h
  rw [h'] at ho; cases ho; cases hc
theorem RowD.ne_box {W : World} {base B : Nat} {v u : Value} {ds : List DgR} (h : RowD W base v ds) (hO : Own W B #[u] 132) : ∀ g, v.ownBlock = some g → g ≠ B := by
  rintro g e rfl
  obtain ⟨_, _, cs, hc⟩ := h.own g e
  have h1 : W.heap[g]? = some (.cells cs 53 (0, 0)) := hc
  have h2 : W.heap[g]? = some (.cells #[u] 132 (0, 0)) := hO
  rw [h1] at h2
  have := (Obj.cells.inj (Option.some.inj h2)).2.1
  exact absurd this (by decide)
theorem RowD.sl {w : World} {base : Nat} {v : Value} {ds : List DgR} (h : RowD w base v ds) : ∃ p m c, v = .slice p m c := by
  obtain ⟨h1, ⟨rfl, _⟩ | ⟨g, cap, cur, rfl, _⟩⟩ := h
  · exact ⟨_, _, _, rfl⟩
  · exact ⟨_, _, _, rfl⟩
theorem apI_from (w0 : World) (B A : Nat) (hA : w0.heap.size ≤ A) : OwnFrom A (ApI w0 B) := by
  rintro ss W W' row ⟨v, hO, hR, hb⟩ hg hr
  refine ⟨v, ?_, hR.kept (fun g e => ?_), hb.grown hg hb.size (fun r e => Nat.le_trans hA (hr r e).1)⟩
  · show W'.heap[B]? = _
    rw [hg.block _ hO.lt (fun e => notcell_ne hO (hr B e.symm).2 rfl)]; exact hO
  · obtain ⟨_, hlt, cs, hc⟩ := hR.own g e
    exact hg.block _ hlt (fun e => notcell_ne hc (hr g e.symm).2 rfl)
set_option maxRecDepth 100000 in
set_option maxHeartbeats 4000000 in
theorem aps_in (Bm b nn : Nat) (L : List Tm) (p : Int) (hG : GoodT p L) (hL : L.length ≤ 100000) (w : World) (hBm : Bm < w.heap.size) (hm : w.cell? ⟨Bm, 0, none⟩ = some (.map (some b))) (hM : Smp w b nn L) :
    CallsIn Fence.wide 6 Try.prog 127 #[.slice none 0 0, .func (.func 126) #[] #[.pointer (some ⟨Bm, 0, none⟩)]] w fun e w' =>
      (∃ v ss, e = .returned v ∧ (ss.Nodup ∧ ∀ d : DgV, d ∈ ss ↔ d.1 ∈ L.map kTm) ∧ RowD w' w.heap.size v (dls ss)) ∧ Below w.heap.size w w' := by
  refine callsIn_of_wp_marks Try.func127 rfl trivial ?_ rfl
  simp only [Try.ntmps127, List.size_toArray, List.length_cons, List.length_nil, Nat.reduceAdd, Nat.reduceSub, Array.replicate_succ, Array.replicate_zero, List.push_toArray, List.append_toArray, List.nil_append, List.cons_append]
  gi_wp2
  have hOa : Own (w.alloc (.cells #[.slice none 0 0] 132)) w.heap.size #[.slice none 0 0] 132 := Own.new w _ _
  have hBa : Below w.heap.size w (w.alloc (.cells #[.slice none 0 0] 132)) := (Below.refl _ _).alloc (Nat.le_refl _) _
  have hsz : (w.alloc (.cells #[.slice none 0 0] 132)).heap.size = w.heap.size + 1 := by simp
  have hcm := (hBa.cell (p := ⟨Bm, 0, none⟩) hBm).trans hm
  have hMa := hM.alloc (.cells #[.slice none 0 0] 132)
  obtain ⟨wl, hwl⟩ : ∃ wl, (w.alloc (.cells #[.slice none 0 0] 132)) = wl := ⟨_, rfl⟩
  rw [hwl] at hOa hBa hsz hcm hMa ⊢
  refine wpIn_rangeFunc_var (rfl : Fence.wide.round = none) (by omega) (gf := 126) (lb := #[.pointer (some ⟨Bm, 0, none⟩)]) rfl trivial (enters_of Try.func126 (by kernel_rfl) rfl)
    (keys_stops Fence.wide 5 trivial (rfl : Fence.wide.round = none) (by omega) Bm b nn L p hG wl (by omega) hcm hMa) (Below.refl _ _) (fun _ => rfl)
    (ApI w w.heap.size) (apI_from w _ _ (by omega)) ⟨_, hOa, RowD.nil _ _, hBa⟩
    (fun a1 x W => ∃ k, Own W k (dcells x.1.1 x.1.2) 53 ∧ a1 = { tmps := #[.slice none 0 0, (Value.func (.func 126) #[] #[.pointer (some ⟨Bm, 0, none⟩)]), .pointer (some ⟨w.heap.size, 0, none⟩), undef, .slice none 0 0, .pointer (some ⟨k, 0, none⟩), (Value.func (.func 126) #[] #[.pointer (some ⟨Bm, 0, none⟩)]), .agg (dcells x.1.1 x.1.2), undef, undef, undef, undef, undef], defers := [] }) ?hAs ?assign ?body ?done
  case hAs =>
    rintro a1 x W W' row ⟨k, hO, e⟩ hg hr
    refine ⟨k, ?_, e⟩
    show W'.heap[k]? = _
    rw [hg.block _ hO.lt (fun e => notcell_ne hO (hr k e.symm).2 rfl)]; exact hO
  case assign =>
    rintro l ⟨⟨n', ms'⟩, hvd⟩ W K hK
    have hl := Lib.hid (show ms'.length = 16 from hvd.2.1)
    have hO1 : Own (W.alloc (.cells zcells 53)) W.heap.size zcells 53 := Own.new W _ _
    have hg1 := World.grownBy_alloc W (.cells zcells 53) none
    have hz : (#[7].zip (dvs ⟨(n', ms'), hvd⟩) : Array (Tmp × Value)) = #[(7, .agg (dcells n' ms'))] := by simp [dvs, Array.zip, Array.zipWith, Array.zipWithMAux]
    rw [hz]
    simp only [List.foldl_toArray', List.foldl_cons, List.foldl_nil]
    gi_wp2_with (first
      | (refine wpListIn_store_own rfl 53 _ _ rfl _ _ rfl rfl 53 _ hO1 (row26 (d17 _ _ hl.out)) (dz _ _ hl.out) (dcells_one _ _) ?_; intro w3 hO3 hN3 hg3)
      | gi_in)
    refine hK _ _ ⟨_, hO3, rfl⟩ (hg1.andThen hg3 (fun j e => by cases e; exact .inl (Nat.le_refl _)))
  case body =>
    rintro l pre ⟨⟨n', ms'⟩, hvd⟩ a1 W ⟨v, hO, hR, hB⟩ hs ⟨k, hOk, rfl⟩
    have hl := Lib.hid (show ms'.length = 16 from hvd.2.1)
    have hpl := Lib.hid (show (dls pre).length < 2097152 by simp [dls]; omega)
    have hpe : dls (pre ++ [⟨(n', ms'), hvd⟩]) = dls pre ++ [(n', ms')] := dls_app _ _
    obtain ⟨ds, hds⟩ : ∃ ds, dls pre = ds := ⟨_, rfl⟩
    have hAp := Lib.hid (fun W' (h : ∃ v, Own W' w.heap.size #[v] 132 ∧ RowD W' w.heap.size v (ds ++ [(n', ms')]) ∧ Below w.heap.size w W') => (show ApI w w.heap.size (pre ++ [⟨(n', ms'), hvd⟩]) W' from by unfold ApI; rw [hpe, hds]; exact h))
    rw [hds] at hR hpl
    clear hpe hds hs
    have c1' : W.cell? ⟨w.heap.size, 0, none⟩ = some v := hO.cell 0
    have hne := Lib.hid (hR.ne_box hO)
    have hge := Lib.hid hR.own
    have hOx : Own (W.alloc (.cells (dcells n' ms') 53)) W.heap.size (dcells n' ms') 53 := Own.new W _ _
    have hRx : RowD (W.alloc (.cells (dcells n' ms') 53)) w.heap.size v ds := hR.alloc _
    have hOO : Own (W.alloc (.cells (dcells n' ms') 53)) w.heap.size #[v] 132 := hO.alloc _
    have hgx := Lib.hid (World.grownBy_alloc W (.cells (dcells n' ms') 53) none)
    have hbx := hB.size
    have hszx : (W.alloc (.cells (dcells n' ms') 53)).heap.size = W.heap.size + 1 := by simp
    gi_wp2_with (first
      | (refine wpListIn_load_row rfl 53 _ rfl _ rfl 53 _ (0, 0) _ hOk Try.underlying53 rfl (row26 (d17 _ _ hl.out)) ?_)
      | (refine wpListIn_mksl rfl 132 _ rfl (.agg (dcells n' ms')) _ rfl (mksD n' ms' hl.out W) ?_)
      | (refine wpListIn_append_rowD rfl (.tmp 8) (.tmp 10) rfl w.heap.size v ds n' ms' hl.out rfl hRx W.heap.size 1 rfl hOx hpl.out (by omega) ?_; intro v2 W2 hR2 hG2; obtain ⟨p2, m2, q2, rfl⟩ := hR2.sl; have hO2 : Own W2 w.heap.size #[v] 132 := ((hG2.block _ hOO.lt (fun e => hne.out _ e.symm rfl)).trans hOO); have f2 := hO2.free 0; have k2 := hO2.cell 0; have hne2 := Lib.hid (hR2.ne_box hO2))
      | gi_in)
    have hne3 : ∀ g, (Value.slice p2 m2 q2).ownBlock = some g → g ≠ w.heap.size := hne2.out
    have zG : (W.alloc (.cells (dcells n' ms') 53)).heap.size ≤ W2.heap.size := hG2.size
    have gW : W.grownBy W2 v.ownBlock := (hgx.out.but _).trans hG2
    have ko : KeepsOthers W W2 := KeepsOthers.of_grownBy gW (fun j o e ho => by
      obtain ⟨_, _, cs, hc⟩ := hge.out j e
      have hc' : W.heap[j]? = some (.cells cs 53 (0, 0)) := hc
      rw [hc'] at ho; cases ho; rfl)
    have bw : Below w.heap.size w W2 := hB.grown gW hbx (fun j e => (hge.out j e).1)
    refine ⟨ko.trans (KeepsOthers.setCell _ _ _), hAp.out _ ⟨.slice p2 m2 q2, hO2.set 0 _, hR2.kept (fun g e => Below.heap_setCell _ _ _ _ (hne3 g e)), bw.setCell (p := ⟨w.heap.size, 0, none⟩) (Nat.le_refl _) _⟩⟩
  case done =>
    rintro D xs W hD hS ⟨v, hO, hR, hB⟩ hK
    have c1' : W.cell? ⟨w.heap.size, 0, none⟩ = some v := hO.cell 0
    gi_wp2
    refine ⟨by simp, .inl ⟨_, _, rfl, run_takeDeferred hK, ?_⟩⟩
    have gr := grownBy_putObj' W D (.deferred none)
    have hBD : Below w.heap.size w (W.putObj D (.deferred none)) := hB.grown gr hB.size (fun r e => by cases e; omega)
    refine ⟨_, results_tmp rfl _ _ _, ⟨v, xs, rfl, hS, hR.kept (fun g e => ?_)⟩, hBD⟩
    obtain ⟨_, _, cs, hc⟩ := hR.own g e
    exact World.putObj_heap_other (notcell_ne hc ⟨_, hK, rfl⟩)
theorem aps_ok (Bm b nn : Nat) (L : List Tm) (p : Int) (hG : GoodT p L) (hL : L.length ≤ 100000) (w : World) (hBm : Bm < w.heap.size) (hm : w.cell? ⟨Bm, 0, none⟩ = some (.map (some b))) (hM : Smp w b nn L) :
    Calls Try.prog 127 #[.slice none 0 0, .func (.func 126) #[] #[.pointer (some ⟨Bm, 0, none⟩)]] w fun e w' =>
      (∃ v ss, e = .returned v ∧ (ss.Nodup ∧ ∀ d : DgV, d ∈ ss ↔ d.1 ∈ L.map kTm) ∧ RowD w' w.heap.size v (dls ss)) ∧ Below w.heap.size w w' :=
  callsIn_wide.1 (aps_in Bm b nn L p hG hL w hBm hm hM)
/-- slices.Collect(maps.Keys(total)): the diagrams of the sum, each once, in a slice of the call's own. -/
theorem col_ok (Bm b nn : Nat) (L : List Tm) (p : Int) (hG : GoodT p L) (hL : L.length ≤ 100000) (w : World) (hBm : Bm < w.heap.size) (hm : w.cell? ⟨Bm, 0, none⟩ = some (.map (some b))) (hM : Smp w b nn L) :
    Calls Try.prog 124 #[.func (.func 126) #[] #[.pointer (some ⟨Bm, 0, none⟩)]] w fun e w' =>
      (∃ v ss, e = .returned v ∧ (ss.Nodup ∧ ∀ d : DgV, d ∈ ss ↔ d.1 ∈ L.map kTm) ∧ RowD w' w.heap.size v (dls ss)) ∧ Below w.heap.size w w' := by
  have hA := Lib.hid (aps_ok Bm b nn L p hG hL w hBm hm hM)
  clear hG hL hBm hm hM
  go_enter Try.func124, Try.ntmps124
  go_wp2_with (first
    | (go_at_call 127; ((with_reducible refine (hA.out).mono ?_); rintro e w2 ⟨⟨v, ss, rfl, hs, hR⟩, hB⟩)))
  go_ret
  exact ⟨⟨v, ss, rfl, hs, hR⟩, hB⟩
end Go.Proofs.Ytbibmncepjmgcaa
