/- A diagram with blobs among a law's arguments, opened. -/
import Derived.Test.YtbegolbognkefaaBlc
import Derived.Test.YtbegolbognkefaaOpen
namespace Go.Proofs.Ytbegolbognkefaa
open Go.ChangeShapes Go.WideShapes Go.ChangeAt Go.RowKit
section
variable {H : Type} {enc : TypeId × Value → H} {w : World} {base : Nat} {spare : Nat → Bool} {held : Bool}
theorem cellsLB : Try.prog.cellsOf 35 = 33 := by kernel_rfl
theorem cellsBo : Try.prog.cellsOf 33 = 16 := by kernel_rfl
theorem cells1b : Try.prog.cellsOf 4 = 1 := by kernel_rfl
theorem bools_of_cells (l : List Value) (h : l.length = 16) (hx : ∀ i, i < 16 → ∃ m, (l.drop i).take 1 = [Value.bool m]) : ∃ bs : List Bool, bs.length = 16 ∧ l = bs.map Value.bool := by
  have get : ∀ i (hi : i < l.length), ∃ m, l[i] = Value.bool m := by
    intro i hi
    obtain ⟨m, hm⟩ := hx i (by omega)
    have e : ((l.drop i).take 1)[0]? = some (Value.bool m) := by rw [hm]; rfl
    refine ⟨m, ?_⟩
    simpa [List.getElem?_take, List.getElem?_eq_getElem hi] using e
  refine ⟨l.map (fun v => match v with | .bool b => b | _ => false), by simp [h], ?_⟩
  apply List.ext_getElem (by simp)
  intro i h1 h2
  obtain ⟨m, hm⟩ := get i h1
  simp [hm]
set_option maxRecDepth 100000 in
theorem dia_of_cells {fuel : Nat} {l : List Value} {y : DataW H × List MemPlace} (hf : DataW.trod enc Try.prog w base spare held fuel 24 l = some y) (hl : l.length = 17) :
    ∃ (n : Int) (ms : List Int), l = (dcells n ms).toList ∧ (Lit.int .i64 n).wf = true ∧ ms.length = 16 ∧ Bytes ms := by
  obtain ⟨xs, m, _, hx, _, hlen, hg⟩ := DataW.trod_struct Try.underlying24 hf
  match xs, hlen with
  | [y0, y1], _ =>
    have g0 : DataW.trod enc Try.prog w base spare held m 2 ((l.drop 0).take (Try.prog.cellsOf 2)) = some y0 := hg 0 _ rfl
    have g1 : DataW.trod enc Try.prog w base spare held m 22 ((l.drop 1).take (Try.prog.cellsOf 22)) = some y1 := hg 1 _ rfl
    obtain ⟨n, e0, _, wn⟩ := DataW.trod_int Try.underlying2 g0
    obtain ⟨ys, m2, _, _, _, hn16, hel⟩ := DataW.trod_array Try.underlying22 g1
    rw [cells2] at e0
    rw [cells24] at hel
    obtain ⟨ms, hms, hE, hB⟩ := bytes_of_cells ((l.drop 1).take 16) (by simp; omega) (by
      intro i hi
      have h2 := hel i hi
      rw [cells5] at h2
      have : ys[i]? = some (ys[i]'(by omega)) := List.getElem?_eq_getElem (by omega)
      rw [this] at h2
      obtain ⟨x, ex, _, wx⟩ := DataW.trod_int Try.underlying5 h2
      exact ⟨x, by simpa using ex, wx⟩)
    refine ⟨n, ms, ?_, wn, hms, hB⟩
    unfold dcells
    rw [← hE]
    match l, hl with
    | a :: t, hl =>
      simp at e0 hl
      rw [e0]
      simp [List.take_of_length_le (show t.length ≤ 16 by omega)]
set_option maxRecDepth 100000 in
theorem open_blobbed {r : Reach} {b0 : Nat} {v : Value} {d : DataW H} {p : List MemPlace} (hv : Value.okWide Try.prog w r b0 35 v) (h : DataW.Trod enc Try.prog w base spare held 35 v d p) :
    ∃ (n : Int) (ms : List Int) (bs : List Bool), v = .agg (bcl n ms bs) ∧ (Lit.int .i64 n).wf = true ∧ ms.length = 16 ∧ Bytes ms ∧ bs.length = 16 := by
  obtain ⟨cs, rfl, hsz⟩ := okWide_struct Try.underlying35 hv
  obtain ⟨l⟩ := cs
  obtain ⟨fuel, hf⟩ := h
  obtain ⟨xs, m, _, hx, _, hlen, hg⟩ := DataW.trod_struct Try.underlying35 hf
  rw [cellsLB] at hsz
  have hl : l.length = 33 := by simpa using hsz
  match xs, hlen with
  | [y0, y1], _ =>
    have g0 : DataW.trod enc Try.prog w base spare held m 24 ((l.drop 0).take (Try.prog.cellsOf 24)) = some y0 := hg 0 _ rfl
    have g1 : DataW.trod enc Try.prog w base spare held m 33 ((l.drop 17).take (Try.prog.cellsOf 33)) = some y1 := hg 1 _ rfl
    rw [cells50] at g0
    obtain ⟨n, ms, e0, wn, hms, hB⟩ := dia_of_cells g0 (by simp; omega)
    obtain ⟨ys, m2, _, _, _, hn16, hel⟩ := DataW.trod_array Try.underlying33 g1
    rw [cellsBo] at hel
    obtain ⟨bs, hbs, hE⟩ := bools_of_cells ((l.drop 17).take 16) (by simp; omega) (by
      intro i hi
      have h2 := hel i hi
      rw [cells1b] at h2
      have : ys[i]? = some (ys[i]'(by omega)) := List.getElem?_eq_getElem (by omega)
      rw [this] at h2
      obtain ⟨x, ex, _⟩ := DataW.trod_bool Try.underlying4 h2
      exact ⟨x, by simpa using ex⟩)
    refine ⟨n, ms, bs, ?_, wn, hms, hB, hbs⟩
    unfold bcl
    rw [← e0, ← hE]
    congr 2
    rw [List.drop_zero, List.take_of_length_le (show (l.drop 17).length ≤ 16 by simp; omega), List.take_append_drop]
end
end Go.Proofs.Ytbegolbognkefaa
