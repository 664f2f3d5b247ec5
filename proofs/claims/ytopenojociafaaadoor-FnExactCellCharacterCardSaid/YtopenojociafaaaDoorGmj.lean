/- A diagram among a law's arguments, opened: its size is an int64, its mates are sixteen bytes. A wrap for rows that list variables of the library, which keeps the shape of the world; the number that one of the library's variables holds. -/
import Derived.Test.YtopenojociafaaaDoorDiaB
import Derived.ProofKit
import Derived.OpenShut
import Derived.Test.YtopenojociafaaaDoorToh
import Derived.Test.YtopenojociafaaaDoorTie
import Derived.Test.YtopenojociafaaaDoorCards
import Derived.ShutString
import Derived.ChangeOld
import Derived.Below
import Derived.LaidMore
import Derived.Lay
import Derived.SevenTiedAt
import Derived.Stop.Joined
import Derived.HandedShaped
namespace Go.Proofs.YtopenojociafaaaDoor
open Go.ChangeShapes Go.WideShapes Go.ChangeAt Go.RowKit
section
variable {H : Type} {enc : TypeId × Value → H} {w : World} {base : Nat} {spare : Nat → Bool} {held : Bool}
theorem cells50 : Tryd.prog.cellsOf 30 = 17 := by kernel_rfl
theorem cells24 : Tryd.prog.cellsOf 28 = 16 := by kernel_rfl
theorem cells2 : Tryd.prog.cellsOf 2 = 1 := by kernel_rfl
theorem cells5 : Tryd.prog.cellsOf 5 = 1 := by kernel_rfl
theorem bytes_of_cells (l : List Value) (h : l.length = 16) (hx : ∀ i, i < 16 → ∃ m, (l.drop i).take 1 = [Value.int .u8 m] ∧ (Lit.int .u8 m).wf = true) : ∃ ms : List Int, ms.length = 16 ∧ l = ms.map (Value.int .u8) ∧ Bytes ms := by
  have get : ∀ i (hi : i < l.length), ∃ m, l[i] = Value.int .u8 m ∧ (Lit.int .u8 m).wf = true := by
    intro i hi
    obtain ⟨m, hm, hw⟩ := hx i (by omega)
    have e : ((l.drop i).take 1)[0]? = some (Value.int .u8 m) := by rw [hm]; rfl
    refine ⟨m, ?_, hw⟩
    simpa [List.getElem?_take, List.getElem?_eq_getElem hi] using e
  refine ⟨l.map intOf, by simp [h], ?_, ?_⟩
  · apply List.ext_getElem (by simp)
    intro i h1 h2
    obtain ⟨m, hm, _⟩ := get i h1
    simp [hm, intOf]
  · intro x hxm
    rw [List.mem_map] at hxm
    obtain ⟨v, hv, rfl⟩ := hxm
    obtain ⟨i, hi, rfl⟩ := List.getElem_of_mem hv
    obtain ⟨m, hm, hw⟩ := get i hi
    rw [hm]
    exact bounds_u8 hw
set_option maxRecDepth 100000 in
theorem open_diagram {r : Reach} {b0 : Nat} {v : Value} {d : DataW H} {p : List MemPlace} (hv : Value.okWide Tryd.prog w r b0 30 v) (h : DataW.Trod enc Tryd.prog w base spare held 30 v d p) :
    ∃ (n : Int) (ms : List Int), v = .agg (dcells n ms) ∧ (Lit.int .i64 n).wf = true ∧ ms.length = 16 ∧ Bytes ms := by
  obtain ⟨cs, rfl, hsz⟩ := okWide_struct Tryd.underlying30 hv
  obtain ⟨l⟩ := cs
  obtain ⟨fuel, hf⟩ := h
  obtain ⟨xs, m, _, hx, _, hlen, hg⟩ := DataW.trod_struct Tryd.underlying30 hf
  rw [cells50] at hsz
  have hl : l.length = 17 := by simpa using hsz
  match xs, hlen with
  | [y0, y1], _ =>
    have g0 : DataW.trod enc Tryd.prog w base spare held m 2 ((l.drop 0).take (Tryd.prog.cellsOf 2)) = some y0 := hg 0 _ rfl
    have g1 : DataW.trod enc Tryd.prog w base spare held m 28 ((l.drop 1).take (Tryd.prog.cellsOf 28)) = some y1 := hg 1 _ rfl
    obtain ⟨n, e0, _, wn⟩ := DataW.trod_int Tryd.underlying2 g0
    obtain ⟨ys, m2, _, _, _, hn16, hel⟩ := DataW.trod_array Tryd.underlying28 g1
    rw [cells2] at e0
    rw [cells24] at hel
    obtain ⟨ms, hms, hE, hB⟩ := bytes_of_cells ((l.drop 1).take 16) (by simp; omega) (by
      intro i hi
      have h2 := hel i hi
      rw [cells5] at h2
      have : ys[i]? = some (ys[i]'(by omega)) := List.getElem?_eq_getElem (by omega)
      rw [this] at h2
      obtain ⟨x, ex, _, wx⟩ := DataW.trod_int Tryd.underlying5 h2
      exact ⟨x, by simpa using ex, wx⟩)
    refine ⟨n, ms, ?_, wn, hms, hB⟩
    unfold dcells
    rw [← hE]
    congr 1
    match l, hl with
    | a :: t, hl =>
      simp at e0 hl
      rw [e0]
      simp [List.take_of_length_le (show t.length ≤ 16 by omega)]
end
end Go.Proofs.YtopenojociafaaaDoor
namespace Go.Proofs.YtopenojociafaaaDoor
open Go.ChangeShapes Go.WideShapes Go.ChangeAt Go.RowKit
theorem ml_of (W : World) (h : W.ShapedOpen Tryd.prog) : ∃ m, Ml W m := Tryd.laysM138.s1_3 W h
theorem handed_laid {H : Type} {enc : TypeId × Value → H} {a : Assume} {C : Checked} {os : Os} {f : FuncId} {fn : Func} {s : ChangeSpec} {conds : List PathCond} {apart fresh handsOn again : Bool} {X : World → Array Value → Prop}
    (own : ownKnob C.prog.godebug = none) (started : os.Started) (noInit : C.prog.inits.idxOf? f = none) (hfn : C.prog.funcs[f]? = some fn)
    (witness : ∃ (w : World) (tape : Tape) (i : Input), w.os = os ∧ (w.forCall tape i).Shaped C.prog ∧ i.vars = [] ∧ Input.okWide C.prog (w.forCall tape i) .any w.heap.size f i ∧
      ((s.pre enc C.prog fn conds apart (w.forCall tape i).memory i.args ∧ X (w.forCall tape i).memory i.args) ∧ sizedMet enc C.prog fn (OpenSpec.ofChange s) apart (w.forCall tape i).memory i.args) ∧ a.holds C.prog (lone (Frame.enter C.prog f i.args .normal) [] (w.forCall tape i)))
    (contract : ∀ (W : World) (base : Nat) (args : Array Value) (ds gs : List (DataW H)) (before : List MemPlace),
      (∀ (j : Nat) t v, fn.params[j]? = some t → args[j]? = some v → Value.okWide C.prog W .any base t v) →
      DataW.Whole enc C.prog fn.params.toList s.vars apart W args.toList ds gs before →
      W.ShapedOpen C.prog →
      Calls C.prog f args W fun e W' => ∃ v, e = .returned v ∧ s.post enc C.prog fn apart fresh handsOn again W args v W') :
    ReturnsInHanded a C os f .any (fun w args => (s.pre enc C.prog fn conds apart w args ∧ X w args) ∧ sizedMet enc C.prog fn (OpenSpec.ofChange s) apart w args) (s.post enc C.prog fn apart fresh handsOn again) := by
  refine returnsInHanded_of_calls own started noInit witness ?_
  intro w tape i _ hsh _ hok hpre _
  obtain ⟨_, _, _, fn', hfn', _, _, _, _, hval⟩ := hok
  have e : fn' = fn := Option.some.inj (hfn'.symm.trans hfn)
  subst e
  obtain ⟨⟨⟨ds, gs, before, hw, hc⟩, hx⟩, hz⟩ := hpre
  have hw' := DataW.Whole.of_heap (w' := w.forCall tape i) (by rfl) hw
  refine (contract (w.forCall tape i) w.heap.size i.args ds gs before hval hw' hsh).mono fun e W' ⟨v, he, hp⟩ => ?_
  subst he
  exact ChangeSpec.post_blind hp
theorem own : ownKnob Tryd.prog.godebug = none := by kernel_rfl
theorem laidOut : laidOutB Tryd.prog = true := by kernel_rfl
end Go.Proofs.YtopenojociafaaaDoor
