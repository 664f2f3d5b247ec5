/- Two elements that are alike: both codes. An element among a law's arguments, opened. A desk among a law's arguments, opened. The law of IsElement. Desks: sizes, copies and comparisons of the laws; IsDesk, the program's and the model's; the law of IsDesk. The new desk: the program's and the model's; marks of desks; the law of NewDesk. -/
import Derived.Test.YtbibmncepjmgcaaElA
import Derived.Test.YtbibmncepjmgcaaElL
import Derived.Test.YtbibmncepjmgcaaKf
import Derived.Test.YtbibmncepjmgcaaKc
import Derived.Test.YtbibmncepjmgcaaKb
import Derived.ChangeSlices
import Derived.DataReads
import Derived.Test.YtbibmncepjmgcaaKh
import Derived.Deep.CutRange
namespace Go.Proofs.Ytbibmncepjmgcaa
open Go.RowKit
set_option linter.unusedVariables false
set_option linter.unusedSimpArgs false
theorem ownE4 {w : World} {g : Nat} {v0 v1 v2 v3 : Value} {t : TypeId} (h : Own w g #[v0, v1, v2, v3] t) : w.cell? ⟨g, 0, none⟩ = some v0 ∧ w.cell? ⟨g, 1, none⟩ = some v1 ∧ w.cell? ⟨g, 2, none⟩ = some v2 ∧ w.cell? ⟨g, 3, none⟩ = some v3 :=
  ⟨h.cell 0, h.cell 1, h.cell 2, h.cell 3⟩
/-- The code of two elements. -/
def cBo (p c n : Int) (ts : List Tm) (p' c' n' : Int) (ts' : List Tm) : Int :=
  if elB p c n ts = false ∨ elB p' c' n' ts' = false then 1 else if p = p' ∧ c = c' ∧ n = n' then 0 else 2
end Go.Proofs.Ytbibmncepjmgcaa
namespace Go.Proofs.Ytbibmncepjmgcaa
open Go.ChangeShapes Go.WideShapes Go.ChangeAt Go.RowKit
theorem choose_list {P : Nat → Tm → Prop} : ∀ n : Nat, (∀ i, i < n → ∃ t, P i t) → ∃ ts : List Tm, ts.length = n ∧ ∀ i, i < n → P i (ts.getD i zT)
  | 0, _ => ⟨[], rfl, fun i h => by omega⟩
  | n + 1, h => by
    obtain ⟨ts, hl, hp⟩ := choose_list n (fun i hi => h i (by omega))
    obtain ⟨t, ht⟩ := h n (by omega)
    refine ⟨ts ++ [t], by simp [hl], fun i hi => ?_⟩
    by_cases c : i < n
    · have := hp i c
      rw [List.getD_eq_getElem?_getD] at this ⊢
      rwa [List.getElem?_append_left (by omega)]
    · have : i = n := by omega
      subst this
      rw [List.getD_eq_getElem?_getD, List.getElem?_append_right (by omega), hl, Nat.sub_self]
      exact ht
section
variable {H : Type} {enc : TypeId × Value → H} {w : World} {base : Nat} {spare : Nat → Bool} {held : Bool}
theorem cellsTm : Try.prog.cellsOf 97 = 18 := by kernel_rfl
theorem cellsEl : Try.prog.cellsOf 24 = 4 := by kernel_rfl
theorem cellsSl : Try.prog.cellsOf 22 = 1 := by kernel_rfl
set_option maxRecDepth 100000 in
theorem diag_of {fuel : Nat} {l : List Value} {y : DataW H × List MemPlace} (h : DataW.trod enc Try.prog w base spare held fuel 95 l = some y) :
    ∃ (n : Int) (ms : List Int), l = (dcells n ms).toList ∧ (Lit.int .i64 n).wf = true ∧ ms.length = 16 ∧ Bytes ms := by
  obtain ⟨xs, m, _, hx, hsz, hlen, hg⟩ := DataW.trod_struct Try.underlying95 h
  rw [cells50] at hsz
  have hl : l.length = 17 := hsz
  match xs, hlen with
  | [y0, y1], _ =>
    have g0 : DataW.trod enc Try.prog w base spare held m 2 ((l.drop 0).take (Try.prog.cellsOf 2)) = some y0 := hg 0 _ rfl
    have g1 : DataW.trod enc Try.prog w base spare held m 51 ((l.drop 1).take (Try.prog.cellsOf 51)) = some y1 := hg 1 _ rfl
    obtain ⟨n, e0, _, wn⟩ := DataW.trod_int Try.underlying2 g0
    obtain ⟨ys, m2, _, _, _, hn16, hel⟩ := DataW.trod_array Try.underlying51 g1
    rw [cells2] at e0
    rw [cells24] at hel
    obtain ⟨ms, hms, hE, hB⟩ := bytes_of_cells ((l.drop 1).take 16) (by simp; omega) (by
      intro i hi
      have h2 := hel i hi
      rw [cells5] at h2
      have : ys[i]? = some (ys[i]'(by omega)) := List.getElem?_eq_getElem (by omega)
      rw [this] at h2
      obtain ⟨x, ex, _, wx⟩ := DataW.trod_int Try.underlying5 h2
      exact ⟨x, by simpa using ex, wx⟩)
    refine ⟨n, ms, ?_, wn, hms, hB⟩
    unfold dcells
    rw [← hE]
    match l, hl with
    | a :: t, hl =>
      simp at e0 hl
      rw [e0]
      simp [List.take_of_length_le (show t.length ≤ 16 by omega)]
set_option maxRecDepth 100000 in
theorem term_of {fuel : Nat} {l : List Value} {y : DataW H × List MemPlace} (h : DataW.trod enc Try.prog w base spare held fuel 97 l = some y) :
    ∃ t : Tm, l = tcl t ∧ OkTm t ∧ (Lit.int .i64 t.1).wf = true ∧ (Lit.int .i64 t.2.2).wf = true := by
  obtain ⟨xs, m, _, hx, hsz, hlen, hg⟩ := DataW.trod_struct Try.underlying97 h
  rw [cellsTm] at hsz
  have hl : l.length = 18 := hsz
  match xs, hlen with
  | [y0, y1], _ =>
    have g0 : DataW.trod enc Try.prog w base spare held m 95 ((l.drop 0).take (Try.prog.cellsOf 95)) = some y0 := hg 0 _ rfl
    have g1 : DataW.trod enc Try.prog w base spare held m 2 ((l.drop 17).take (Try.prog.cellsOf 2)) = some y1 := hg 1 _ rfl
    rw [cells50] at g0
    rw [cells2] at g1
    obtain ⟨n, ms, e0, wn, hms, hB⟩ := diag_of g0
    obtain ⟨f, e1, _, wf⟩ := DataW.trod_int Try.underlying2 g1
    refine ⟨(n, ms, f), ?_, ⟨hms, hB⟩, wn, wf⟩
    show l = (dcells n ms).toList ++ [.int .i64 f]
    rw [← e0, ← e1, List.drop_zero, List.take_of_length_le (show (l.drop 17).length ≤ 1 by rw [List.length_drop]; omega), List.take_append_drop]
set_option maxRecDepth 100000 in
theorem open_element {r : Reach} {b0 : Nat} {v : Value} {d : DataW H} {p : List MemPlace} (hv : Value.okWide Try.prog w r b0 24 v) (h : DataW.Trod enc Try.prog w base spare held 24 v d p) :
    ∃ (pr c n : Int) (q : Option Addr) (cap : Nat) (ts : List Tm), v = .agg (ecl pr c n (.slice q ts.length cap)) ∧ RdT w q ts ∧ ts.length ≤ maxLen ∧ (∀ t ∈ ts, OkTm t ∧ (Lit.int .i64 t.1).wf = true ∧ (Lit.int .i64 t.2.2).wf = true) ∧
      (Lit.int .i64 pr).wf = true ∧ (Lit.int .i64 c).wf = true ∧ (Lit.int .i64 n).wf = true := by
  obtain ⟨cs, rfl, hsz⟩ := okWide_struct Try.underlying24 hv
  obtain ⟨l⟩ := cs
  obtain ⟨fuel, hf⟩ := h
  obtain ⟨xs, m, _, hx, _, hlen, hg⟩ := DataW.trod_struct Try.underlying24 hf
  rw [cellsEl] at hsz
  have hl : l.length = 4 := by simpa using hsz
  match l, hl, xs, hlen with
  | [v0, v1, v2, v3], _, [y0, y1, y2, y3], _ =>
    have g0 : DataW.trod enc Try.prog w base spare held m 2 (([v0, v1, v2, v3].drop 0).take (Try.prog.cellsOf 2)) = some y0 := hg 0 _ rfl
    have g1 : DataW.trod enc Try.prog w base spare held m 2 (([v0, v1, v2, v3].drop 1).take (Try.prog.cellsOf 2)) = some y1 := hg 1 _ rfl
    have g2 : DataW.trod enc Try.prog w base spare held m 2 (([v0, v1, v2, v3].drop 2).take (Try.prog.cellsOf 2)) = some y2 := hg 2 _ rfl
    have g3 : DataW.trod enc Try.prog w base spare held m 22 (([v0, v1, v2, v3].drop 3).take (Try.prog.cellsOf 22)) = some y3 := hg 3 _ rfl
    rw [cells2] at g0 g1 g2
    rw [cellsSl] at g3
    obtain ⟨a, e0, _, wa⟩ := DataW.trod_int Try.underlying2 g0
    obtain ⟨b, e1, _, wb⟩ := DataW.trod_int Try.underlying2 g1
    obtain ⟨c, e2, _, wc⟩ := DataW.trod_int Try.underlying2 g2
    simp at e0 e1 e2
    subst e0 e1 e2
    rcases DataW.trod_slice Try.underlying22 g3 with ⟨h1, _⟩ | ⟨ad, len, cap, elems, rest, fu, _, h1, _, _, hlc, hcm, hlen2, hel, _, _⟩
    · simp at h1
      subst h1
      exact ⟨a, b, c, none, 0, [], rfl, ⟨fun _ e => (by cases e), fun _ => rfl⟩, by simp, by simp, wa, wb, wc⟩
    · simp at h1
      subst h1
      rw [cellsTm] at hel
      have hch : ∀ i, i < len → ∃ t : Tm, w.cells? base (ad.add (i * 18)) 18 = some (tcl t) ∧ OkTm t ∧ (Lit.int .i64 t.1).wf = true ∧ (Lit.int .i64 t.2.2).wf = true := by
        intro i hi
        have h2 := hel i hi
        rw [List.getElem?_eq_getElem (by omega)] at h2
        cases hc : w.cells? base (ad.add (i * 18)) 18 with
        | none => rw [hc] at h2; cases h2
        | some cs =>
          rw [hc] at h2
          obtain ⟨t, et, o1, o2, o3⟩ := term_of h2
          exact ⟨t, by rw [et], o1, o2, o3⟩
      obtain ⟨ts, htl, htp⟩ := choose_list len hch
      subst htl
      refine ⟨a, b, c, some ad, cap, ts, rfl, ⟨fun a' e k hk j v hj => ?_, fun e => by cases e⟩, by omega, fun t ht => ?_, wa, wb, wc⟩
      · cases e
        obtain ⟨_, hcl, hcc⟩ := World.cells?_some (htp k hk).1
        have hj18 : j < 18 := by have := (List.getElem?_eq_some_iff.1 hj).1; omega
        rw [hcc j hj18, hj]
      · obtain ⟨i, hi, rfl⟩ := List.getElem_of_mem ht
        have := (htp i hi).2
        rw [List.getD_eq_getElem?_getD, List.getElem?_eq_getElem hi] at this
        exact this
end
end Go.Proofs.Ytbibmncepjmgcaa
namespace Go.Proofs.Ytbibmncepjmgcaa
open Go.ChangeShapes Go.WideShapes Go.ChangeAt Go.RowKit
section
variable {H : Type} {enc : TypeId × Value → H} {w : World} {base : Nat} {spare : Nat → Bool} {held : Bool}
set_option maxRecDepth 100000 in
theorem elem_of {fuel : Nat} {l : List Value} {y : DataW H × List MemPlace} (hf : DataW.trod enc Try.prog w base spare held fuel 24 l = some y) :
    ∃ (pr c n : Int) (q : Option Addr) (cap : Nat) (ts : List Tm), l = (ecl pr c n (.slice q ts.length cap)).toList ∧ RdT w q ts ∧ ts.length ≤ maxLen ∧ (∀ t ∈ ts, OkTm t ∧ (Lit.int .i64 t.1).wf = true ∧ (Lit.int .i64 t.2.2).wf = true) ∧
      (Lit.int .i64 pr).wf = true ∧ (Lit.int .i64 c).wf = true ∧ (Lit.int .i64 n).wf = true := by
  obtain ⟨xs, m, _, hx, hsz, hlen, hg⟩ := DataW.trod_struct Try.underlying24 hf
  rw [cellsEl] at hsz
  have hl : l.length = 4 := by simpa using hsz
  match l, hl, xs, hlen with
  | [v0, v1, v2, v3], _, [y0, y1, y2, y3], _ =>
    have g0 : DataW.trod enc Try.prog w base spare held m 2 (([v0, v1, v2, v3].drop 0).take (Try.prog.cellsOf 2)) = some y0 := hg 0 _ rfl
    have g1 : DataW.trod enc Try.prog w base spare held m 2 (([v0, v1, v2, v3].drop 1).take (Try.prog.cellsOf 2)) = some y1 := hg 1 _ rfl
    have g2 : DataW.trod enc Try.prog w base spare held m 2 (([v0, v1, v2, v3].drop 2).take (Try.prog.cellsOf 2)) = some y2 := hg 2 _ rfl
    have g3 : DataW.trod enc Try.prog w base spare held m 22 (([v0, v1, v2, v3].drop 3).take (Try.prog.cellsOf 22)) = some y3 := hg 3 _ rfl
    rw [cells2] at g0 g1 g2
    rw [cellsSl] at g3
    obtain ⟨a, e0, _, wa⟩ := DataW.trod_int Try.underlying2 g0
    obtain ⟨b, e1, _, wb⟩ := DataW.trod_int Try.underlying2 g1
    obtain ⟨c, e2, _, wc⟩ := DataW.trod_int Try.underlying2 g2
    simp at e0 e1 e2
    subst e0 e1 e2
    rcases DataW.trod_slice Try.underlying22 g3 with ⟨h1, _⟩ | ⟨ad, len, cap, elems, rest, fu, _, h1, _, _, hlc, hcm, hlen2, hel, _, _⟩
    · simp at h1
      subst h1
      exact ⟨a, b, c, none, 0, [], rfl, ⟨fun _ e => (by cases e), fun _ => rfl⟩, by simp, by simp, wa, wb, wc⟩
    · simp at h1
      subst h1
      rw [cellsTm] at hel
      have hch : ∀ i, i < len → ∃ t : Tm, w.cells? base (ad.add (i * 18)) 18 = some (tcl t) ∧ OkTm t ∧ (Lit.int .i64 t.1).wf = true ∧ (Lit.int .i64 t.2.2).wf = true := by
        intro i hi
        have h2 := hel i hi
        rw [List.getElem?_eq_getElem (by omega)] at h2
        cases hc : w.cells? base (ad.add (i * 18)) 18 with
        | none => rw [hc] at h2; cases h2
        | some cs =>
          rw [hc] at h2
          obtain ⟨t, et, o1, o2, o3⟩ := term_of h2
          exact ⟨t, by rw [et], o1, o2, o3⟩
      obtain ⟨ts, htl, htp⟩ := choose_list len hch
      subst htl
      refine ⟨a, b, c, some ad, cap, ts, rfl, ⟨fun a' e k hk j v hj => ?_, fun e => by cases e⟩, by omega, fun t ht => ?_, wa, wb, wc⟩
      · cases e
        obtain ⟨_, hcl, hcc⟩ := World.cells?_some (htp k hk).1
        have hj18 : j < 18 := by have := (List.getElem?_eq_some_iff.1 hj).1; omega
        rw [hcc j hj18, hj]
      · obtain ⟨i, hi, rfl⟩ := List.getElem_of_mem ht
        have := (htp i hi).2
        rw [List.getD_eq_getElem?_getD, List.getElem?_eq_getElem hi] at this
        exact this
/-- The eight cells of a desk. -/
def dkl (p c n : Int) (v : Value) (p' c' n' : Int) (v' : Value) : Array Value := #[.int .i64 p, .int .i64 c, .int .i64 n, v, .int .i64 p', .int .i64 c', .int .i64 n', v']
end
end Go.Proofs.Ytbibmncepjmgcaa
namespace Go.Proofs.Ytbibmncepjmgcaa
open Go.RowKit
set_option linter.unusedVariables false
/-- An element of the laws, with its terms, as a struct of four cells. -/
theorem own4 {w : World} {g : Nat} {v0 v1 v2 v3 : Value} {t : TypeId} (h : Own w g #[v0, v1, v2, v3] t) : w.cell? ⟨g, 0, none⟩ = some v0 ∧ w.cell? ⟨g, 1, none⟩ = some v1 ∧ w.cell? ⟨g, 2, none⟩ = some v2 ∧ w.cell? ⟨g, 3, none⟩ = some v3 :=
  ⟨h.cell 0, h.cell 1, h.cell 2, h.cell 3⟩
end Go.Proofs.Ytbibmncepjmgcaa
namespace Go.Proofs.Ytbibmncepjmgcaa
open Go.RowKit
set_option linter.unusedVariables false
set_option linter.unusedSimpArgs false
theorem Own.dk1 {w : World} {g : Nat} {p c n : Int} {v : Value} {p' c' n' : Int} {v' : Value} {t : TypeId} (h : Own w g (dkl p c n v p' c' n' v') t) : ∀ j u, [Value.int .i64 p, .int .i64 c, .int .i64 n, v][j]? = some u → w.cell? ((⟨g, 0, none⟩ : Addr).add j) = some u := fun j u hj => by
  have := Own.part (A := []) (B := [Value.int .i64 p, .int .i64 c, .int .i64 n, v]) (C := [Value.int .i64 p', .int .i64 c', .int .i64 n', v']) h j u hj
  rw [Addr.add_mid]
  exact this
theorem Own.dk2 {w : World} {g : Nat} {p c n : Int} {v : Value} {p' c' n' : Int} {v' : Value} {t : TypeId} (h : Own w g (dkl p c n v p' c' n' v') t) : ∀ j u, [Value.int .i64 p', .int .i64 c', .int .i64 n', v'][j]? = some u → w.cell? ((⟨g, 4, none⟩ : Addr).add j) = some u := fun j u hj => by
  have := Own.part (A := [Value.int .i64 p, .int .i64 c, .int .i64 n, v]) (B := [Value.int .i64 p', .int .i64 c', .int .i64 n', v']) (C := []) h j u hj
  rw [Addr.add_mid]
  exact this
theorem bel1 (w : World) (o : Obj) : Below w.heap.size w (w.alloc o) := (Below.refl _ w).alloc (Nat.le_refl _) o
theorem bel2 (w : World) (o o2 : Obj) : Below w.heap.size w ((w.alloc o).alloc o2) := (bel1 w o).alloc (by simp) o2
theorem bel3 (w : World) (o o2 o3 : Obj) : Below w.heap.size w (((w.alloc o).alloc o2).alloc o3) := (bel2 w o o2).alloc (by simp; omega) o3
set_option maxRecDepth 100000 in
theorem toEx_any (p c n : Int) (q : Option Addr) (cap : Nat) (ts : List Tm) (hts : ∀ t ∈ ts, t.2.1.length = 16) (hx : ts.length ≤ 1048576) (w : World) (hR : RdT w q ts) :
    Calls Try.prog 11 #[.agg (ecl p c n (.slice q ts.length cap))] w fun e w' => ∃ a, e = .returned (.agg (ecl p c n (.slice (some ⟨a, 0, none⟩) ts.length ts.length))) ∧ Own w' a (tsl ts).toArray 56 ∧ w.heap.size ≤ a ∧ Below w.heap.size w w' :=
  (toE_any p c n q cap ts hts hx w hR).mono fun e w' h => ⟨_, h.1, h.2.1, by omega, h.2.2⟩
end Go.Proofs.Ytbibmncepjmgcaa
namespace Go.Proofs.Ytbibmncepjmgcaa
open Go.RowKit
set_option linter.unusedVariables false
set_option linter.unusedSimpArgs false
theorem Own.neTz {w : World} {b b' : Nat} {cs cs' : Array Value} {t t' : TypeId} (h : Own w b cs t) (h' : Own w b' cs' t') (ht : t ≠ t') : b ≠ b' := by
  rintro rfl
  have : some (Obj.cells cs t (0, 0)) = some (Obj.cells cs' t' (0, 0)) := (show w.heap[b]? = _ from h).symm.trans h'
  simp at this
  exact ht this.2
theorem gen_wdn {P : Program} {c : Code} {Q : Exit → Act → World → Prop} {a : Act} {W : World} (S : World → Prop) (h : S W) (k : ∀ x, S x → c.wp P Q a x) : c.wp P Q a W := k W h
theorem Below.of_alloc {w w' : World} {o : Obj} (h : Below (w.alloc o).heap.size (w.alloc o) w') : Below w.heap.size w w' := (bel1 w o).trans (h.mono (bel1 w o).size)
set_option maxRecDepth 100000 in
set_option maxHeartbeats 1000000 in
theorem emptyS_any (p c n : Int) (q : Option Addr) (l cap : Nat) (w : World) :
    Calls Try.prog 31 #[.agg (ecl p c n (.slice q l cap))] w fun e w' => ∃ g, e = .returned (.agg (ecl p c n (.slice (some ⟨g, 0, none⟩) 0 0))) ∧ w.heap.size ≤ g ∧ Own w' g #[] 56 ∧ Below w.heap.size w w' := by
  unfold ecl
  have oR := Lib.hid (fun (A C : Obj) (cs : Array Value) => show Own (((w.alloc A).alloc (.cells cs 30)).alloc C) (w.heap.size + 1) cs 30 from (Own.at (w.alloc A) cs 30 (by simp)).alloc C)
  have oT := Lib.hid (fun (A B : Obj) (cs : Array Value) => show Own (((w.alloc A).alloc B).alloc (.cells cs 56)) (w.heap.size + 1 + 1) cs 56 from Own.at ((w.alloc A).alloc B) cs 56 (by simp))
  have b3 := Lib.hid (fun (A B C : Obj) => bel3 w A B C)
  go_enter Try.func31, Try.ntmps31
  go_wp2
  refine bodyPost_ret (v := .agg #[.int .i64 p, .int .i64 c, .int .i64 n, .slice (some ⟨w.heap.size + 1 + 1, 0, none⟩) 0 0]) (results_cell_row rfl _ _ _ _ _ (0, 0) _ rfl (oR.out _ _ _) Try.underlying30 rfl (by kernel_rfl)) rfl ⟨_, rfl, by omega, oT.out _ _ _, b3.out _ _ _⟩
set_option maxRecDepth 100000 in
set_option maxHeartbeats 2000000 in
theorem oneE_any (p c n : Int) (q : Option Addr) (l cap : Nat) (h1 : 1 ≤ n) (h8 : n ≤ 8) (w : World) :
    Calls Try.prog 85 #[.agg (ecl p c n (.slice q l cap))] w fun e w' => ∃ g cap', e = .returned (.agg (ecl p c n (.slice (some ⟨g, 0, none⟩) 1 cap'))) ∧ MnT w' w.heap.size g [(n, oneL n n.toNat, 1)] ∧ 1 ≤ cap' ∧ Below w.heap.size w w' := by
  have hE := Lib.hid (fun w => emptyS_any p c n q l cap w)
  have hone := Lib.hid (fun w => oneS_any n w h1 h8)
  have hl := Lib.hid (oneL_len n n.toNat)
  obtain ⟨ms, hms⟩ : ∃ ms, oneL n n.toNat = ms := ⟨_, rfl⟩
  rw [hms] at hone hl ⊢
  have hb := Lib.hid (builtT n ms hl.out 1)
  have hm1 := Lib.hid (mkT1 n ms hl.out 1)
  have h16 : L16 [(n, ms, 1)] := fun t ht => by obtain rfl : t = (n, ms, 1) := (by simpa using ht); exact hl.out
  have H16 := Lib.hid h16
  clear hms h16
  unfold ecl at *
  go_enter Try.func85, Try.ntmps85
  go_upto_region 2 with (first
    | (refine wpList_load_row rfl 30 _ rfl _ rfl 30 _ (0, 0) _ ((Own.new w _ _).alloc _) Try.underlying30 rfl (by kernel_rfl) ?_)
    | (go_at_call 31; ((with_reducible refine (hE.out _).mono ?_); rintro e w1 ⟨g, rfl, hg, hT1, hB1⟩; simp only [World.size_alloc] at hg))
    | (refine wpList_store_own rfl 30 _ _ rfl _ _ rfl rfl 30 _ (Own.new w1 _ _) (by kernel_rfl) rfl (by simp [Value.oneCell']) ?_; intro w2 hO2 hN2))
  have hs1 := hB1.size
  simp only [World.size_alloc] at hs1
  have hX1 : Own w1 w.heap.size #[.int .i64 p, .int .i64 c, .int .i64 n, .slice q l cap] 30 := ((Own.new w _ _).alloc _).below hB1 (by simp <;> omega)
  have hZ1 : Own w1 (w.heap.size + 1) #[.int .i64 0, .int .i64 0, .int .i64 0, .slice none 0 0] 30 := (Own.at (w.alloc _) _ _ (by simp)).below hB1 (by simp)
  have hX2 := (hX1.alloc (.cells #[.int .i64 0, .int .i64 0, .int .i64 0, .slice none 0 0] 30)).only hN2 (by have := hX1.lt; omega)
  have hZ2 := (hZ1.alloc (.cells #[.int .i64 0, .int .i64 0, .int .i64 0, .slice none 0 0] 30)).only hN2 (by have := hZ1.lt; omega)
  have hT2 := (hT1.alloc (.cells #[.int .i64 0, .int .i64 0, .int .i64 0, .slice none 0 0] 30)).only hN2 (by have := hT1.lt; omega)
  have bA : Below w.heap.size w w1 := (bel2 w _ _).trans (hB1.mono (by simp <;> omega))
  have bB := (bA.alloc (by omega) (.cells #[.int .i64 0, .int .i64 0, .int .i64 0, .slice none 0 0] 30)).trans (hN2.below.mono (by omega))
  obtain ⟨b3, hb3⟩ : ∃ b, w1.heap.size = b := ⟨_, rfl⟩
  rw [hb3] at hO2 hN2 hs1
  have hgb : g < b3 := by have := hT1.lt; omega
  rw [hb3]
  clear hX1 hZ1 hT1 hB1 bA hN2 hb3
  refine wp_region_st (fun x => Own x b3 #[.int .i64 p, .int .i64 c, .int .i64 n, .slice (some ⟨g, 0, none⟩) 0 0] 30 ∧ Own x w.heap.size #[.int .i64 p, .int .i64 c, .int .i64 n, .slice q l cap] 30 ∧ Own x (w.heap.size + 1) #[.int .i64 0, .int .i64 0, .int .i64 0, .slice none 0 0] 30 ∧ Below w.heap.size w x) [(true, 0), (true, 1), (true, 2), (true, 3), (false, 4), (false, 5), (false, 6), (false, 7), (true, 8)] 9 (by kernel_rfl) (by kernel_rfl) ⟨hO2.drewN 1, hX2.drewN 1, hZ2.drewN 1, bB.drew⟩ ?_
  simp only [List.map_cons, List.map_nil, opS'_mk, opN_zero, opN_succ, List.drop_succ_cons, List.drop_zero]
  have hO8 := hO2.drewN 1
  have hX8 := hX2.drewN 1
  have hZ8 := hZ2.drewN 1
  have hT8 := hT2.drewN 1
  have hB8 := bB.drew
  change Own { w2 with drawn := w2.drawn + 1 } _ _ _ at hO8 hX8 hZ8 hT8
  change Below _ _ { w2 with drawn := w2.drawn + 1 } at hB8
  clear hO2 hX2 hZ2 hT2 bB
  generalize ({ w2 with drawn := w2.drawn + 1 } : World) = w8 at *
  iterate 4 (apply wpSt_read; · (intro wd hS K hK; have k0 := hS.1.cell 3; have k1 := hS.2.1.cell 2; clear hS; go_simp; exact hK))
  refine wpSt_keep (fun K hK => ?_)
  go_wp2_with (first
    | (go_at_call 69; ((with_reducible refine (hone.out w8).mono ?_); rintro e w9 ⟨rfl, hB9⟩)))
  have hO9 := hO8.below hB9 hO8.lt
  have hX9 := hX8.below hB9 hX8.lt
  have hZ9 := hZ8.below hB9 hZ8.lt
  have hT9 := hT8.below hB9 hT8.lt
  have hBx := hB8.trans (hB9.mono hB8.size)
  clear hO8 hX8 hZ8 hT8 hB8 hB9
  refine hK _ _ ⟨hO9, hX9, hZ9, hBx⟩ rfl ?_
  clear hK K
  refine wpSt_keep (fun K hK => ?_)
  go_wp2_with (first
    | (refine wpList_build_of rfl 56 #[(0, .tmp 10), (1, .const (.int .i64 1))] rfl (tcl (n, ms, 1)).toArray ?_ ?_; (exact hb.out)))
  refine hK _ _ ⟨hO9, hX9, hZ9, hBx⟩ rfl ?_
  clear hK K
  refine wpSt_keep (fun K hK => ?_)
  go_wp2_with (first
    | (refine wpList_mkslice rfl 28 (.tmp 11) rfl (.agg (tcl (n, ms, 1)).toArray) _ rfl (hm1.out _) ?_))
  have hs9 := hBx.size
  have hOa := hO9.alloc (.cells (tcl (n, ms, 1)).toArray 56)
  have hXa := hX9.alloc (.cells (tcl (n, ms, 1)).toArray 56)
  have hZa := hZ9.alloc (.cells (tcl (n, ms, 1)).toArray 56)
  have hTa := hT9.alloc (.cells (tcl (n, ms, 1)).toArray 56)
  have hBa := hBx.alloc hs9 (.cells (tcl (n, ms, 1)).toArray 56)
  have hflat := one_flat w9 (n, ms, 1)
  have h9 : w9.heap.size < (w9.alloc (.cells (tcl (n, ms, 1)).toArray 56)).heap.size := by simp
  obtain ⟨wa, hwa⟩ : ∃ x, w9.alloc (.cells (tcl (n, ms, 1)).toArray 56) = x := ⟨_, rfl⟩
  rw [hwa] at hOa hXa hZa hTa hBa hflat h9 ⊢
  clear hO9 hX9 hZ9 hT9 hBx
  refine hK _ _ ⟨hOa, hXa, hZa, hBa⟩ rfl ?_
  clear hK K
  have hrow : RowT wa w.heap.size (.slice (some ⟨g, 0, none⟩) 0 0) [] := ⟨rfl, .inr ⟨g, 0, #[], rfl, by omega, hTa, Nat.le_refl _, by unfold maxLen; omega, rfl, rfl⟩⟩
  refine wpSt_keep (fun K hK => ?_)
  go_wp2_with (first
    | (refine wpList_append_terms rfl (.tmp 7) (.tmp 12) rfl w.heap.size (.slice (some ⟨g, 0, none⟩) 0 0) [] [(n, ms, 1)] H16.out rfl hrow (by simp) ⟨w9.heap.size, 0, none⟩ 1 rfl hflat (by simp) hBa.size ?_; intro v' wb hv hnv hG))
  have hG' : wa.grownBy wb (some g) := hG
  have hOb := hOa.grown hG' (by omega)
  have hXb := hXa.grown hG' (by omega)
  have hZb := hZa.grown hG' (by omega)
  have hBb := hBa.grown hG' hBa.size (fun k e => by injection e with e; omega)
  obtain ⟨g', cap', rfl, hcap, hM⟩ := hv.mn hnv
  have hgb3 : g' ≠ b3 := fun e => by
    obtain ⟨_, sp, ho⟩ := hM
    rw [e] at ho
    exact (Own.neTz ho hOb (by decide)) rfl
  have hgz : g' ≠ w.heap.size + 1 := fun e => by
    obtain ⟨_, sp, ho⟩ := hM
    rw [e] at ho
    exact (Own.neTz ho hZb (by decide)) rfl
  clear hOa hXa hZa hTa hBa hG hG' hrow hflat hv hnv
  refine hK _ _ ⟨hOb, hXb, hZb, hBb⟩ rfl ?_
  clear hK K
  (apply wpSt_read; · (intro wd hS K hK; clear hS; go_simp; exact hK))
  refine wpSt_nil ?_
  have c3 := hOb.cell 3
  have f3 := hOb.free 3
  have hOc := Lib.hid (show Own (wb.setCell ⟨b3, 3, none⟩ (.slice (some ⟨g', 0, none⟩) 1 cap')) b3 #[.int .i64 p, .int .i64 c, .int .i64 n, .slice (some ⟨g', 0, none⟩) 1 cap'] 30 from hOb.set 3 _)
  have hZc := Lib.hid (hZb.other (a := ⟨b3, 3, none⟩) (by show b3 ≠ w.heap.size + 1; omega) (.slice (some ⟨g', 0, none⟩) 1 cap'))
  have hMc := Lib.hid (show MnT (wb.setCell ⟨b3, 3, none⟩ (.slice (some ⟨g', 0, none⟩) 1 cap')) w.heap.size g' [(n, ms, 1)] from by
    obtain ⟨h0, sp, ho⟩ := hM
    exact ⟨h0, sp, ho.other (a := ⟨b3, 3, none⟩) (by show b3 ≠ g'; exact fun e => hgb3 e.symm) _⟩)
  have hBc := Lib.hid (hBb.setCell (p := ⟨b3, 3, none⟩) (by show w.heap.size ≤ b3; omega) (.slice (some ⟨g', 0, none⟩) 1 cap'))
  clear hOb hXb hZb hM hBb
  go_wp2_with (first
    | (refine wpList_load_row rfl 30 _ rfl _ rfl 30 _ (0, 0) _ hOc.out Try.underlying30 rfl (by kernel_rfl) ?_)
    | (refine wpList_store_own rfl 30 _ _ rfl _ _ rfl rfl 30 _ hZc.out (by kernel_rfl) rfl (by simp [Value.oneCell']) ?_; intro w5 hO5 hN5))
  refine bodyPost_ret (v := .agg #[.int .i64 p, .int .i64 c, .int .i64 n, .slice (some ⟨g', 0, none⟩) 1 cap']) (results_cell_row rfl _ _ _ _ _ (0, 0) _ rfl hO5 Try.underlying30 rfl (by kernel_rfl)) rfl ⟨g', cap', rfl, ?_, hcap, hBc.out.trans (hN5.below.mono (by omega))⟩
  obtain ⟨h0, sp, ho⟩ := hMc.out
  exact ⟨h0, sp, ho.only hN5 hgz⟩
theorem RdT.mn {w : World} {B g : Nat} {ts : List Tm} (h : MnT w B g ts) (h16 : L16 ts) : RdT w (some ⟨g, 0, none⟩) ts := h.rd h16
theorem RdT.no (w : World) (q : Option Addr) : RdT w q [] := ⟨fun a e k hk => by simp at hk, fun _ => rfl⟩
end Go.Proofs.Ytbibmncepjmgcaa
