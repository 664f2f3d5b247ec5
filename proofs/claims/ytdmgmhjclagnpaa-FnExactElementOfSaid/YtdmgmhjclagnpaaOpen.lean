/- A diagram among a law's arguments, opened: its size is an int64, its mates are sixteen bytes. -/
import Derived.Test.YtdmgmhjclagnpaaDiaB
import Derived.ProofKit
import Derived.OpenShut
namespace Go.Proofs.Ytdmgmhjclagnpaa
open Go.ChangeShapes Go.WideShapes Go.ChangeAt Go.RowKit
section
variable {H : Type} {enc : TypeId × Value → H} {w : World} {base : Nat} {spare : Nat → Bool} {held : Bool}
theorem cells50 : Try.prog.cellsOf 51 = 17 := by kernel_rfl
theorem cells24 : Try.prog.cellsOf 49 = 16 := by kernel_rfl
theorem cells2 : Try.prog.cellsOf 2 = 1 := by kernel_rfl
theorem cells5 : Try.prog.cellsOf 5 = 1 := by kernel_rfl
theorem bytes_of_cells (l : List Value) (h : l.length = 16) (hx : ∀ i, i < 16 → ∃ m, (l.drop i).take 1 = [Value.int .u8 m] ∧ (Lit.int .u8 m).wf = true) : ∃ ms : List Int, ms.length = 16 ∧ l = ms.map (Value.int .u8) ∧ Bytes ms := by
  have get : ∀ i (hi : i < l.length), ∃ m, l[i] = Value.int .u8 m ∧ (Lit.int .u8 m).wf = true := by
    intro i hi
    obtain ⟨m, hm, hw⟩ := hx i (by omega)
    have e : ((l.drop i).take 1)[0]? = some (Value.int .u8 m) := by rw [hm]; rfl
    refine ⟨m, ?_, hw⟩
    simpa [List.getElem?_take, List.getElem?_eq_getElem hi] using e
  refine ⟨l.map intOf, by simp [h], ?_, ?_⟩
  · apply List.ext_getElem (by simp)
    intro i h1 h2
    obtain ⟨m, hm, _⟩ := get i h1
    simp [hm, intOf]
  · intro x hxm
    rw [List.mem_map] at hxm
    obtain ⟨v, hv, rfl⟩ := hxm
    obtain ⟨i, hi, rfl⟩ := List.getElem_of_mem hv
    obtain ⟨m, hm, hw⟩ := get i hi
    rw [hm]
    exact bounds_u8 hw
set_option maxRecDepth 100000 in
theorem open_diagram {r : Reach} {b0 : Nat} {v : Value} {d : DataW H} {p : List MemPlace} (hv : Value.okWide Try.prog w r b0 51 v) (h : DataW.Trod enc Try.prog w base spare held 51 v d p) :
    ∃ (n : Int) (ms : List Int), v = .agg (dcells n ms) ∧ (Lit.int .i64 n).wf = true ∧ ms.length = 16 ∧ Bytes ms := by
  obtain ⟨cs, rfl, hsz⟩ := okWide_struct Try.underlying51 hv
  obtain ⟨l⟩ := cs
  obtain ⟨fuel, hf⟩ := h
  obtain ⟨xs, m, _, hx, _, hlen, hg⟩ := DataW.trod_struct Try.underlying51 hf
  rw [cells50] at hsz
  have hl : l.length = 17 := by simpa using hsz
  match xs, hlen with
  | [y0, y1], _ =>
    have g0 : DataW.trod enc Try.prog w base spare held m 2 ((l.drop 0).take (Try.prog.cellsOf 2)) = some y0 := hg 0 _ rfl
    have g1 : DataW.trod enc Try.prog w base spare held m 49 ((l.drop 1).take (Try.prog.cellsOf 49)) = some y1 := hg 1 _ rfl
    obtain ⟨n, e0, _, wn⟩ := DataW.trod_int Try.underlying2 g0
    obtain ⟨ys, m2, _, _, _, hn16, hel⟩ := DataW.trod_array Try.underlying49 g1
    rw [cells2] at e0
    rw [cells24] at hel
    obtain ⟨ms, hms, hE, hB⟩ := bytes_of_cells ((l.drop 1).take 16) (by simp; omega) (by
      intro i hi
      have h2 := hel i hi
      rw [cells5] at h2
      have : ys[i]? = some (ys[i]'(by omega)) := List.getElem?_eq_getElem (by omega)
      rw [this] at h2
      obtain ⟨x, ex, _, wx⟩ := DataW.trod_int Try.underlying5 h2
      exact ⟨x, by simpa using ex, wx⟩)
    refine ⟨n, ms, ?_, wn, hms, hB⟩
    unfold dcells
    rw [← hE]
    congr 1
    match l, hl with
    | a :: t, hl =>
      simp at e0 hl
      rw [e0]
      simp [List.take_of_length_le (show t.length ≤ 16 by omega)]
end
end Go.Proofs.Ytdmgmhjclagnpaa
