/- A desk among a law's arguments, opened. -/
import Derived.Test.YtdmgmhjclagnpaaOpenE
namespace Go.Proofs.Ytdmgmhjclagnpaa
open Go.ChangeShapes Go.WideShapes Go.ChangeAt Go.RowKit
section
variable {H : Type} {enc : TypeId × Value → H} {w : World} {base : Nat} {spare : Nat → Bool} {held : Bool}
theorem cellsDk : Try.prog.cellsOf 35 = 8 := by kernel_rfl
set_option maxRecDepth 100000 in
theorem elem_of {fuel : Nat} {l : List Value} {y : DataW H × List MemPlace} (hf : DataW.trod enc Try.prog w base spare held fuel 33 l = some y) :
    ∃ (pr c n : Int) (q : Option Addr) (cap : Nat) (ts : List Tm), l = (ecl pr c n (.slice q ts.length cap)).toList ∧ RdT w q ts ∧ ts.length ≤ maxLen ∧ (∀ t ∈ ts, OkTm t ∧ (Lit.int .i64 t.1).wf = true ∧ (Lit.int .i64 t.2.2).wf = true) ∧
      (Lit.int .i64 pr).wf = true ∧ (Lit.int .i64 c).wf = true ∧ (Lit.int .i64 n).wf = true := by
  obtain ⟨xs, m, _, hx, hsz, hlen, hg⟩ := DataW.trod_struct Try.underlying33 hf
  rw [cellsEl] at hsz
  have hl : l.length = 4 := by simpa using hsz
  match l, hl, xs, hlen with
  | [v0, v1, v2, v3], _, [y0, y1, y2, y3], _ =>
    have g0 : DataW.trod enc Try.prog w base spare held m 2 (([v0, v1, v2, v3].drop 0).take (Try.prog.cellsOf 2)) = some y0 := hg 0 _ rfl
    have g1 : DataW.trod enc Try.prog w base spare held m 2 (([v0, v1, v2, v3].drop 1).take (Try.prog.cellsOf 2)) = some y1 := hg 1 _ rfl
    have g2 : DataW.trod enc Try.prog w base spare held m 2 (([v0, v1, v2, v3].drop 2).take (Try.prog.cellsOf 2)) = some y2 := hg 2 _ rfl
    have g3 : DataW.trod enc Try.prog w base spare held m 31 (([v0, v1, v2, v3].drop 3).take (Try.prog.cellsOf 31)) = some y3 := hg 3 _ rfl
    rw [cells2] at g0 g1 g2
    rw [cellsSl] at g3
    obtain ⟨a, e0, _, wa⟩ := DataW.trod_int Try.underlying2 g0
    obtain ⟨b, e1, _, wb⟩ := DataW.trod_int Try.underlying2 g1
    obtain ⟨c, e2, _, wc⟩ := DataW.trod_int Try.underlying2 g2
    simp at e0 e1 e2
    subst e0 e1 e2
    rcases DataW.trod_slice Try.underlying31 g3 with ⟨h1, _⟩ | ⟨ad, len, cap, elems, rest, fu, _, h1, _, _, hlc, hcm, hlen2, hel, _, _⟩
    · simp at h1
      subst h1
      exact ⟨a, b, c, none, 0, [], rfl, ⟨fun _ e => (by cases e), fun _ => rfl⟩, by simp, by simp, wa, wb, wc⟩
    · simp at h1
      subst h1
      rw [cellsTm] at hel
      have hch : ∀ i, i < len → ∃ t : Tm, w.cells? base (ad.add (i * 18)) 18 = some (tcl t) ∧ OkTm t ∧ (Lit.int .i64 t.1).wf = true ∧ (Lit.int .i64 t.2.2).wf = true := by
        intro i hi
        have h2 := hel i hi
        rw [List.getElem?_eq_getElem (by omega)] at h2
        cases hc : w.cells? base (ad.add (i * 18)) 18 with
        | none => rw [hc] at h2; cases h2
        | some cs =>
          rw [hc] at h2
          obtain ⟨t, et, o1, o2, o3⟩ := term_of h2
          exact ⟨t, by rw [et], o1, o2, o3⟩
      obtain ⟨ts, htl, htp⟩ := choose_list len hch
      subst htl
      refine ⟨a, b, c, some ad, cap, ts, rfl, ⟨fun a' e k hk j v hj => ?_, fun e => by cases e⟩, by omega, fun t ht => ?_, wa, wb, wc⟩
      · cases e
        obtain ⟨_, hcl, hcc⟩ := World.cells?_some (htp k hk).1
        have hj18 : j < 18 := by have := (List.getElem?_eq_some_iff.1 hj).1; omega
        rw [hcc j hj18, hj]
      · obtain ⟨i, hi, rfl⟩ := List.getElem_of_mem ht
        have := (htp i hi).2
        rw [List.getD_eq_getElem?_getD, List.getElem?_eq_getElem hi] at this
        exact this
/-- The eight cells of a desk. -/
def dkl (p c n : Int) (v : Value) (p' c' n' : Int) (v' : Value) : Array Value := #[.int .i64 p, .int .i64 c, .int .i64 n, v, .int .i64 p', .int .i64 c', .int .i64 n', v']
set_option maxRecDepth 100000 in
theorem open_desk {r : Reach} {b0 : Nat} {v : Value} {d : DataW H} {p : List MemPlace} (hv : Value.okWide Try.prog w r b0 35 v) (h : DataW.Trod enc Try.prog w base spare held 35 v d p) :
    ∃ (pr c n : Int) (q : Option Addr) (cap : Nat) (ts : List Tm) (pr' c' n' : Int) (q' : Option Addr) (cap' : Nat) (ts' : List Tm), v = .agg (dkl pr c n (.slice q ts.length cap) pr' c' n' (.slice q' ts'.length cap')) ∧
      RdT w q ts ∧ ts.length ≤ maxLen ∧ (∀ t ∈ ts, OkTm t ∧ (Lit.int .i64 t.1).wf = true ∧ (Lit.int .i64 t.2.2).wf = true) ∧ (Lit.int .i64 pr).wf = true ∧
      RdT w q' ts' ∧ ts'.length ≤ maxLen ∧ (∀ t ∈ ts', OkTm t ∧ (Lit.int .i64 t.1).wf = true ∧ (Lit.int .i64 t.2.2).wf = true) ∧ (Lit.int .i64 pr').wf = true := by
  obtain ⟨cs, rfl, hsz⟩ := okWide_struct Try.underlying35 hv
  obtain ⟨l⟩ := cs
  obtain ⟨fuel, hf⟩ := h
  obtain ⟨xs, m, _, hx, _, hlen, hg⟩ := DataW.trod_struct Try.underlying35 hf
  rw [cellsDk] at hsz
  have hl : l.length = 8 := by simpa using hsz
  match xs, hlen with
  | [y0, y1], _ =>
    have g0 : DataW.trod enc Try.prog w base spare held m 33 ((l.drop 0).take (Try.prog.cellsOf 33)) = some y0 := hg 0 _ rfl
    have g1 : DataW.trod enc Try.prog w base spare held m 33 ((l.drop 4).take (Try.prog.cellsOf 33)) = some y1 := hg 1 _ rfl
    rw [cellsEl] at g0 g1
    obtain ⟨pr, c, n, q, cap, ts, e0, r0, m0, o0, w0, _⟩ := elem_of g0
    obtain ⟨pr', c', n', q', cap', ts', e1, r1, m1, o1, w1, _⟩ := elem_of g1
    refine ⟨pr, c, n, q, cap, ts, pr', c', n', q', cap', ts', ?_, r0, m0, o0, w0, r1, m1, o1, w1⟩
    have e : l = (l.drop 0).take 4 ++ (l.drop 4).take 4 := by
      rw [List.drop_zero, List.take_of_length_le (show (l.drop 4).length ≤ 4 by simp; omega), List.take_append_drop]
    rw [e0, e1] at e
    rw [e]
    rfl
end
end Go.Proofs.Ytdmgmhjclagnpaa
