/- An element among a law's arguments, opened. -/
import Derived.Test.YtdmgmhjclagnpaaElem
import Derived.Test.YtdmgmhjclagnpaaOpen
import Derived.ChangeSlices
import Derived.DataReads
namespace Go.Proofs.Ytdmgmhjclagnpaa
open Go.ChangeShapes Go.WideShapes Go.ChangeAt Go.RowKit
theorem choose_list {P : Nat → Tm → Prop} : ∀ n : Nat, (∀ i, i < n → ∃ t, P i t) → ∃ ts : List Tm, ts.length = n ∧ ∀ i, i < n → P i (ts.getD i zT)
  | 0, _ => ⟨[], rfl, fun i h => by omega⟩
  | n + 1, h => by
    obtain ⟨ts, hl, hp⟩ := choose_list n (fun i hi => h i (by omega))
    obtain ⟨t, ht⟩ := h n (by omega)
    refine ⟨ts ++ [t], by simp [hl], fun i hi => ?_⟩
    by_cases c : i < n
    · have := hp i c
      rw [List.getD_eq_getElem?_getD] at this ⊢
      rwa [List.getElem?_append_left (by omega)]
    · have : i = n := by omega
      subst this
      rw [List.getD_eq_getElem?_getD, List.getElem?_append_right (by omega), hl, Nat.sub_self]
      exact ht
section
variable {H : Type} {enc : TypeId × Value → H} {w : World} {base : Nat} {spare : Nat → Bool} {held : Bool}
theorem cellsTm : Try.prog.cellsOf 91 = 18 := by kernel_rfl
theorem cellsEl : Try.prog.cellsOf 33 = 4 := by kernel_rfl
theorem cellsSl : Try.prog.cellsOf 31 = 1 := by kernel_rfl
set_option maxRecDepth 100000 in
theorem diag_of {fuel : Nat} {l : List Value} {y : DataW H × List MemPlace} (h : DataW.trod enc Try.prog w base spare held fuel 51 l = some y) :
    ∃ (n : Int) (ms : List Int), l = (dcells n ms).toList ∧ (Lit.int .i64 n).wf = true ∧ ms.length = 16 ∧ Bytes ms := by
  obtain ⟨xs, m, _, hx, hsz, hlen, hg⟩ := DataW.trod_struct Try.underlying51 h
  rw [cells50] at hsz
  have hl : l.length = 17 := hsz
  match xs, hlen with
  | [y0, y1], _ =>
    have g0 : DataW.trod enc Try.prog w base spare held m 2 ((l.drop 0).take (Try.prog.cellsOf 2)) = some y0 := hg 0 _ rfl
    have g1 : DataW.trod enc Try.prog w base spare held m 49 ((l.drop 1).take (Try.prog.cellsOf 49)) = some y1 := hg 1 _ rfl
    obtain ⟨n, e0, _, wn⟩ := DataW.trod_int Try.underlying2 g0
    obtain ⟨ys, m2, _, _, _, hn16, hel⟩ := DataW.trod_array Try.underlying49 g1
    rw [cells2] at e0
    rw [cells24] at hel
    obtain ⟨ms, hms, hE, hB⟩ := bytes_of_cells ((l.drop 1).take 16) (by simp; omega) (by
      intro i hi
      have h2 := hel i hi
      rw [cells5] at h2
      have : ys[i]? = some (ys[i]'(by omega)) := List.getElem?_eq_getElem (by omega)
      rw [this] at h2
      obtain ⟨x, ex, _, wx⟩ := DataW.trod_int Try.underlying5 h2
      exact ⟨x, by simpa using ex, wx⟩)
    refine ⟨n, ms, ?_, wn, hms, hB⟩
    unfold dcells
    rw [← hE]
    match l, hl with
    | a :: t, hl =>
      simp at e0 hl
      rw [e0]
      simp [List.take_of_length_le (show t.length ≤ 16 by omega)]
set_option maxRecDepth 100000 in
theorem term_of {fuel : Nat} {l : List Value} {y : DataW H × List MemPlace} (h : DataW.trod enc Try.prog w base spare held fuel 91 l = some y) :
    ∃ t : Tm, l = tcl t ∧ OkTm t ∧ (Lit.int .i64 t.1).wf = true ∧ (Lit.int .i64 t.2.2).wf = true := by
  obtain ⟨xs, m, _, hx, hsz, hlen, hg⟩ := DataW.trod_struct Try.underlying91 h
  rw [cellsTm] at hsz
  have hl : l.length = 18 := hsz
  match xs, hlen with
  | [y0, y1], _ =>
    have g0 : DataW.trod enc Try.prog w base spare held m 51 ((l.drop 0).take (Try.prog.cellsOf 51)) = some y0 := hg 0 _ rfl
    have g1 : DataW.trod enc Try.prog w base spare held m 2 ((l.drop 17).take (Try.prog.cellsOf 2)) = some y1 := hg 1 _ rfl
    rw [cells50] at g0
    rw [cells2] at g1
    obtain ⟨n, ms, e0, wn, hms, hB⟩ := diag_of g0
    obtain ⟨f, e1, _, wf⟩ := DataW.trod_int Try.underlying2 g1
    refine ⟨(n, ms, f), ?_, ⟨hms, hB⟩, wn, wf⟩
    show l = (dcells n ms).toList ++ [.int .i64 f]
    rw [← e0, ← e1, List.drop_zero, List.take_of_length_le (show (l.drop 17).length ≤ 1 by rw [List.length_drop]; omega), List.take_append_drop]
set_option maxRecDepth 100000 in
theorem open_element {r : Reach} {b0 : Nat} {v : Value} {d : DataW H} {p : List MemPlace} (hv : Value.okWide Try.prog w r b0 33 v) (h : DataW.Trod enc Try.prog w base spare held 33 v d p) :
    ∃ (pr c n : Int) (q : Option Addr) (cap : Nat) (ts : List Tm), v = .agg (ecl pr c n (.slice q ts.length cap)) ∧ RdT w q ts ∧ ts.length ≤ maxLen ∧ (∀ t ∈ ts, OkTm t ∧ (Lit.int .i64 t.1).wf = true ∧ (Lit.int .i64 t.2.2).wf = true) ∧
      (Lit.int .i64 pr).wf = true ∧ (Lit.int .i64 c).wf = true ∧ (Lit.int .i64 n).wf = true := by
  obtain ⟨cs, rfl, hsz⟩ := okWide_struct Try.underlying33 hv
  obtain ⟨l⟩ := cs
  obtain ⟨fuel, hf⟩ := h
  obtain ⟨xs, m, _, hx, _, hlen, hg⟩ := DataW.trod_struct Try.underlying33 hf
  rw [cellsEl] at hsz
  have hl : l.length = 4 := by simpa using hsz
  match l, hl, xs, hlen with
  | [v0, v1, v2, v3], _, [y0, y1, y2, y3], _ =>
    have g0 : DataW.trod enc Try.prog w base spare held m 2 (([v0, v1, v2, v3].drop 0).take (Try.prog.cellsOf 2)) = some y0 := hg 0 _ rfl
    have g1 : DataW.trod enc Try.prog w base spare held m 2 (([v0, v1, v2, v3].drop 1).take (Try.prog.cellsOf 2)) = some y1 := hg 1 _ rfl
    have g2 : DataW.trod enc Try.prog w base spare held m 2 (([v0, v1, v2, v3].drop 2).take (Try.prog.cellsOf 2)) = some y2 := hg 2 _ rfl
    have g3 : DataW.trod enc Try.prog w base spare held m 31 (([v0, v1, v2, v3].drop 3).take (Try.prog.cellsOf 31)) = some y3 := hg 3 _ rfl
    rw [cells2] at g0 g1 g2
    rw [cellsSl] at g3
    obtain ⟨a, e0, _, wa⟩ := DataW.trod_int Try.underlying2 g0
    obtain ⟨b, e1, _, wb⟩ := DataW.trod_int Try.underlying2 g1
    obtain ⟨c, e2, _, wc⟩ := DataW.trod_int Try.underlying2 g2
    simp at e0 e1 e2
    subst e0 e1 e2
    rcases DataW.trod_slice Try.underlying31 g3 with ⟨h1, _⟩ | ⟨ad, len, cap, elems, rest, fu, _, h1, _, _, hlc, hcm, hlen2, hel, _, _⟩
    · simp at h1
      subst h1
      exact ⟨a, b, c, none, 0, [], rfl, ⟨fun _ e => (by cases e), fun _ => rfl⟩, by simp, by simp, wa, wb, wc⟩
    · simp at h1
      subst h1
      rw [cellsTm] at hel
      have hch : ∀ i, i < len → ∃ t : Tm, w.cells? base (ad.add (i * 18)) 18 = some (tcl t) ∧ OkTm t ∧ (Lit.int .i64 t.1).wf = true ∧ (Lit.int .i64 t.2.2).wf = true := by
        intro i hi
        have h2 := hel i hi
        rw [List.getElem?_eq_getElem (by omega)] at h2
        cases hc : w.cells? base (ad.add (i * 18)) 18 with
        | none => rw [hc] at h2; cases h2
        | some cs =>
          rw [hc] at h2
          obtain ⟨t, et, o1, o2, o3⟩ := term_of h2
          exact ⟨t, by rw [et], o1, o2, o3⟩
      obtain ⟨ts, htl, htp⟩ := choose_list len hch
      subst htl
      refine ⟨a, b, c, some ad, cap, ts, rfl, ⟨fun a' e k hk j v hj => ?_, fun e => by cases e⟩, by omega, fun t ht => ?_, wa, wb, wc⟩
      · cases e
        obtain ⟨_, hcl, hcc⟩ := World.cells?_some (htp k hk).1
        have hj18 : j < 18 := by have := (List.getElem?_eq_some_iff.1 hj).1; omega
        rw [hcc j hj18, hj]
      · obtain ⟨i, hi, rfl⟩ := List.getElem_of_mem ht
        have := (htp i hi).2
        rw [List.getD_eq_getElem?_getD, List.getElem?_eq_getElem hi] at this
        exact this
end
end Go.Proofs.Ytdmgmhjclagnpaa
