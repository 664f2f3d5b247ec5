/- A slice of bytes among a law's arguments, opened. -/
import Derived.Test.YtmcffhafonemeaaSrc
import Derived.Test.YtmcffhafonemeaaNum
import Derived.ProofKit
import Derived.OpenShut
import Derived.ChangeSlices
namespace Go.Proofs.Ytmcffhafonemeaa
open Go.ChangeShapes Go.WideShapes Go.ChangeAt Go.RowKit
section
variable {H : Type} {enc : TypeId × Value → H} {w : World} {base : Nat} {spare : Nat → Bool} {held : Bool}
theorem byte_wf {n : Int} (h : (Lit.int .u8 n).wf = true) : 0 ≤ n ∧ n ≤ 255 := by
  simp [Lit.wf, IntKind.min, IntKind.max, IntKind.signed, IntKind.bits] at h
  omega
set_option maxRecDepth 100000 in
theorem open_bytesS {r : Reach} {b0 : Nat} {v : Value} {d : DataW H} {ps : List MemPlace} (hv : Value.okWide Try.prog w r b0 22 v) (h : DataW.Trod enc Try.prog w base spare held 22 v d ps) :
    ∃ (p : Option Addr) (n cap : Nat), v = .slice p n cap ∧ RdB w p n ∧ n ≤ maxLen := by
  obtain ⟨fuel, hf⟩ := h
  obtain ⟨a0, len0, cap0, rfl⟩ := okWide_slice Try.underlying22 hv
  rcases open_ints Try.underlying22 Try.underlying5 (by kernel_rfl) hf with ⟨h1, _⟩ | ⟨a, len, cap, zs, h1, _, h2, h3, h4, _, h5, h6⟩
  · have h1 : [Value.slice a0 len0 cap0] = [.slice none 0 0] := h1
    simp at h1
    obtain ⟨rfl, rfl, rfl⟩ := h1
    exact ⟨none, 0, 0, rfl, ⟨fun a e => (by cases e), fun _ => rfl⟩, by unfold maxLen; omega⟩
  · have h1 : [Value.slice a0 len0 cap0] = [.slice (some a) len cap] := h1
    simp at h1
    obtain ⟨e1, e2, e3⟩ := h1
    rw [e1, e2, e3]
    have hz : len ≤ zs.length := by rw [h4]; split <;> omega
    refine ⟨some a, len, cap, rfl, ⟨fun b e j hj => ?_, fun e => by cases e⟩, by omega⟩
    cases e
    have hj2 : j < zs.length := by omega
    have hb := byte_wf (h6 (zs.getD j 0) (by rw [List.getD_eq_getElem?_getD, List.getElem?_eq_getElem hj2]; exact List.getElem_mem _))
    exact ⟨zs.getD j 0, hb.1, hb.2, h5 j hj2⟩
end
end Go.Proofs.Ytmcffhafonemeaa
