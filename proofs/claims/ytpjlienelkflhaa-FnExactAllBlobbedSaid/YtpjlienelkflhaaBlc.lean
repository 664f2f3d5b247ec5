/- Diagrams with blobs as cells: a size, sixteen mates, sixteen truths. -/
import Derived.Test.YtpjlienelkflhaaTerm
import Derived.Test.YtpjlienelkflhaaBlm
import Derived.Deep.QuietTactic
import Derived.BigQuiet
namespace Go.Proofs.Ytpjlienelkflhaa
open Go.RowKit
set_option linter.unusedVariables false
set_option linter.unusedSimpArgs false
def bools (bs : List Bool) : Array Value := (bs.map Value.bool).toArray
def bcl (n : Int) (ms : List Int) (bs : List Bool) : Array Value := ((dcells n ms).toList ++ bs.map Value.bool).toArray
def zbs : List Bool := List.replicate 16 false
def zbl : Array Value := bcl 0 zeros zbs
theorem zbsl : zbs.length = 16 := rfl
theorem bcl_size (n : Int) (ms : List Int) (bs : List Bool) : (bcl n ms bs).size = ms.length + 1 + bs.length := by simp [bcl, dcells]; omega
theorem b33 (n : Int) (ms : List Int) (bs : List Bool) (h : ms.length = 16) (h' : bs.length = 16) : (bcl n ms bs).size = 33 := by rw [bcl_size, h, h']
theorem bb (n n' : Int) (ms ms' : List Int) (bs bs' : List Bool) (h : ms.length = 16) (h' : bs.length = 16) (k : ms'.length = 16) (k' : bs'.length = 16) : (bcl n ms bs).size = (bcl n' ms' bs').size := by rw [b33 _ _ _ h h', b33 _ _ _ k k']
theorem zb (n : Int) (ms : List Int) (bs : List Bool) (h : ms.length = 16) (h' : bs.length = 16) : zbl.size = (bcl n ms bs).size := bb _ _ _ _ _ _ zlen zbsl h h'
theorem rowB {c : Array Value} (h : c.size = 33) : (Try.prog.info? 64).map (·.size) = some c.size := by rw [h]; kernel_rfl
theorem rowbo {c : Array Value} (h : c.size = 16) : (Try.prog.info? 62).map (·.size) = some c.size := by rw [h]; kernel_rfl
theorem o16 (bs : List Bool) (h : bs.length = 16) : (bools bs).size = 16 := by simp [bools, h]
theorem bcl_one (n : Int) (ms : List Int) (bs : List Bool) : (bcl n ms bs).all (·.oneCell') = true := by simp [bcl, dcells, Value.oneCell']
theorem bools_one (bs : List Bool) : (bools bs).all (·.oneCell') = true := by simp [bools, Value.oneCell']
theorem bools_get (bs : List Bool) (i : Nat) (h : i < bs.length) : (bools bs)[i]? = some (.bool (bs.getD i false)) := by simp [bools, h]
theorem bools_set (bs : List Bool) (i : Nat) (x : Bool) : (bools bs).setIfInBounds i (.bool x) = bools (bs.set i x) := by simp [bools, List.map_set]
theorem bcl_zero (n : Int) (ms : List Int) (bs : List Bool) : (bcl n ms bs)[0]? = some (.int .i64 n) := by simp [bcl, dcells]
theorem bcl_mate (n : Int) (ms : List Int) (bs : List Bool) (i : Nat) (h : i < ms.length) : (bcl n ms bs)[1 + i]? = some (.int .u8 (ms.getD i 0)) := by
  have := dcells_get n ms i h
  unfold bcl
  rw [List.getElem?_toArray, List.getElem?_append_left (by simp [dcells]; omega)]
  rw [← this, Array.getElem?_toList]
theorem bcl_blob (n : Int) (ms : List Int) (bs : List Bool) (hm : ms.length = 16) (i : Nat) (h : i < bs.length) : (bcl n ms bs)[17 + i]? = some (.bool (bs.getD i false)) := by
  unfold bcl
  rw [List.getElem?_toArray, List.getElem?_append_right (by rw [dl17 hm]; omega), dl17 hm, Nat.add_sub_cancel_left]
  simp [h]
theorem bcl_set (n : Int) (ms : List Int) (bs : List Bool) (hm : ms.length = 16) (i : Nat) (x : Bool) : (bcl n ms bs).setIfInBounds (17 + i) (.bool x) = bcl n ms (bs.set i x) := by
  unfold bcl
  apply Array.toList_inj.1
  simp only [Array.toList_setIfInBounds]
  rw [List.set_append_right _ _ (by rw [dl17 hm]; omega), dl17 hm, Nat.add_sub_cancel_left, List.map_set]
theorem Own.bdia {w : World} {g : Nat} {n : Int} {ms : List Int} {bs : List Bool} {t : TypeId} (h : Own w g (bcl n ms bs) t) (hm : ms.length = 16) : w.rangeAt g 0 (dcells n ms).toList :=
  Own.part (A := []) (B := (dcells n ms).toList) (C := bs.map Value.bool) (by simpa [bcl] using h)
theorem Own.bblo {w : World} {g : Nat} {n : Int} {ms : List Int} {bs : List Bool} {t : TypeId} (h : Own w g (bcl n ms bs) t) (hm : ms.length = 16) : w.rangeAt g 17 (bools bs).toList := by
  have := Own.part (w := w) (g := g) (A := (dcells n ms).toList) (B := bs.map Value.bool) (C := []) (t := t) (by simpa [bcl] using h)
  rw [dl17 hm] at this
  exact this
theorem builtB0 : Try.prog.built 64 [] = some zbl := by kernel_rfl
theorem builtB1 (n : Int) (ms : List Int) (h : ms.length = 16) : Try.prog.built 64 [(0, .agg (dcells n ms))] = some (bcl n ms zbs) := by
  obtain ⟨a0, a1, a2, a3, a4, a5, a6, a7, a8, a9, b0, b1, b2, b3, b4, b5, rfl⟩ := list16 ms h
  kernel_rfl
/-- Stores of the parts. -/
theorem wpList_store_bdia {P : Program} {ops : Array Oper} {rest : List Oper} {o : Oper} {a : Act} {w : World} {Q : Exit → Act → World → Prop} (hgd : o.guard = none) (ty : TypeId) (x y : Operand) (ho : o.op = .store ty x y)
    (g : Nat) (n n0 : Int) (ms ms0 : List Int) (bs : List Bool) (hx : a.eval x = .pointer (some ⟨g, 0, none⟩)) (hy : a.eval y = .agg (dcells n ms)) (h0 : ms0.length = 16) (h1 : ms.length = 16)
    (t : TypeId) (hg : Own w g (bcl n0 ms0 bs) t) (hi : (P.info? ty).map (·.size) = some (dcells n ms).size)
    (h : ∀ w', Own w' g (bcl n ms bs) t → Only g w w' → wpList P ops Q rest (a.put o.dst undef) w') : wpList P ops Q (o :: rest) a w := by
  refine wpList_store_part hgd ty x y ho g [] (dcells n0 ms0).toList (bs.map Value.bool) (dcells n ms) hx hy (by rw [d17 _ _ h1, dl17 h0]) t (by simpa [bcl] using hg) hi (dcells_one _ _) ?_
  intro w' ho' hn'
  exact h w' (by simpa [bcl] using ho') hn'
theorem wpList_store_bblo {P : Program} {ops : Array Oper} {rest : List Oper} {o : Oper} {a : Act} {w : World} {Q : Exit → Act → World → Prop} (hgd : o.guard = none) (ty : TypeId) (x y : Operand) (ho : o.op = .store ty x y)
    (g : Nat) (n : Int) (ms : List Int) (bs bs0 : List Bool) (hx : a.eval x = .pointer (some ⟨g, 17, none⟩)) (hy : a.eval y = .agg (bools bs)) (h1 : ms.length = 16) (hb : bs.length = 16) (hb0 : bs0.length = 16)
    (t : TypeId) (hg : Own w g (bcl n ms bs0) t) (hi : (P.info? ty).map (·.size) = some (bools bs).size)
    (h : ∀ w', Own w' g (bcl n ms bs) t → Only g w w' → wpList P ops Q rest (a.put o.dst undef) w') : wpList P ops Q (o :: rest) a w := by
  refine wpList_store_part hgd ty x y ho g (dcells n ms).toList (bs0.map Value.bool) [] (bools bs) (by rw [dl17 h1]; exact hx) hy (by rw [o16 _ hb]; simp [hb0]) t (by simpa [bcl] using hg) hi (bools_one _) ?_
  intro w' ho' hn'
  exact h w' (by simpa [bcl, bools] using ho') hn'
/-- The first k of the truths, and false behind them. -/
def cpyB (bs : List Bool) : Nat → List Bool
  | 0 => zbs
  | k + 1 => (cpyB bs k).set k (bs.getD k false)
theorem cpyB_len (bs : List Bool) (k : Nat) : (cpyB bs k).length = 16 := by
  induction k with
  | zero => rfl
  | succ k ih => simp [cpyB, ih]
theorem listB16 (bs : List Bool) (h : bs.length = 16) : ∃ a0 a1 a2 a3 a4 a5 a6 a7 a8 a9 b0 b1 b2 b3 b4 b5 : Bool, bs = [a0, a1, a2, a3, a4, a5, a6, a7, a8, a9, b0, b1, b2, b3, b4, b5] := by
  match bs, h with
  | [a0, a1, a2, a3, a4, a5, a6, a7, a8, a9, b0, b1, b2, b3, b4, b5], _ => exact ⟨a0, a1, a2, a3, a4, a5, a6, a7, a8, a9, b0, b1, b2, b3, b4, b5, rfl⟩
theorem cpyB_end (bs : List Bool) (h : bs.length = 16) : cpyB bs 16 = bs := by
  obtain ⟨a0, a1, a2, a3, a4, a5, a6, a7, a8, a9, b0, b1, b2, b3, b4, b5, rfl⟩ := listB16 bs h
  rfl
set_option maxRecDepth 100000 in
set_option maxHeartbeats 400000 in
theorem eqBo_same (bs : List Bool) (hms : bs.length = 16) (w : World) :
    Calls Try.prog 54 #[.agg (bools bs), .agg (bools bs)] w fun e w' => e = .returned (.bool true) ∧ Below w.heap.size w w' := by
  have hl := Lib.hid hms
  clear hms
  go_enter Try.func54, Try.ntmps54
  go_wp2
  go_loopw [5] (fun i wr => ∃ k : Nat, k ≤ 16 ∧ i = .int .i64 k ∧ Own wr w.heap.size (bools bs) 62 ∧ Own wr (w.heap.size + 1) (bools bs) 62 ∧ Below w.heap.size w wr) (fun i _ => (16 - intOf i).toNat)
  case atStart => exact ⟨0, by omega, rfl, Own.alloc (Own.new _ _ _) _, Own.at _ _ _ (by simp), ((Below.refl _ _).alloc (Nat.le_refl _) _).alloc (by simp) _⟩
  case round =>
    obtain ⟨k, hk, rfl, hO, hR, hB⟩ := hrel
    by_cases hlt : k < 16
    · have c1 := hO.cell k
      rw [bools_get _ _ (by rw [hl.out]; exact hlt)] at c1
      have c2 := hR.cell k
      rw [bools_get _ _ (by rw [hl.out]; exact hlt)] at c2
      obtain ⟨b, hb⟩ : ∃ b, bs.getD k false = b := ⟨_, rfl⟩
      rw [hb] at c1 c2
      clear hb
      go_wp2
      go_quiet (fail)
      go_wp2
      go_roundw
      case rel => exact ⟨k + 1, by omega, by go_num, hO.drewN _, hR.drewN _, Below.drewN hB _⟩
      case measure => simp [intOf]; omega
    · go_wp2
      go_ret
      exact ⟨rfl, hB⟩
set_option maxRecDepth 100000 in
theorem eqBl_same (n : Int) (ms : List Int) (bs : List Bool) (hms : ms.length = 16) (hbs : bs.length = 16) (w : World) :
    Calls Try.prog 42 #[.agg (bcl n ms bs), .agg (bcl n ms bs)] w fun e w' => e = .returned (.bool true) ∧ Below w.heap.size w w' := by
  have hl := Lib.hid hms
  have hk := Lib.hid hbs
  have n0 : Own ((w.alloc (.cells (bcl n ms bs) 64)).alloc (.cells (bcl n ms bs) 64)) w.heap.size (bcl n ms bs) 64 := (Own.new _ _ _).alloc _
  have n1 : Own ((w.alloc (.cells (bcl n ms bs) 64)).alloc (.cells (bcl n ms bs) 64)) (w.heap.size + 1) (bcl n ms bs) 64 := Own.at _ _ _ (by simp)
  have b0 : Below w.heap.size w ((w.alloc (.cells (bcl n ms bs) 64)).alloc (.cells (bcl n ms bs) 64)) := ((Below.refl _ _).alloc (Nat.le_refl _) _).alloc (by simp) _
  have N0 := Lib.hid n0
  have N1 := Lib.hid n1
  have B0 := Lib.hid b0
  clear hms hbs n0 n1 b0
  go_enter Try.func42, Try.ntmps42
  go_wp2_with (first
    | (refine wpList_load_part rfl 30 (.tmp 5) rfl _ 0 rfl (dcells n ms) _ (Own.bdia N0.out hl.out) Try.underlying30 rfl (row26 (d17 _ _ hl.out)) ?_)
    | (refine wpList_load_part rfl 30 (.tmp 7) rfl _ 0 rfl (dcells n ms) _ (Own.bdia N1.out hl.out) Try.underlying30 rfl (row26 (d17 _ _ hl.out)) ?_)
    | (go_at_call 15; refine (eqD_same n ms hl.out _).mono ?_; rintro e w1 ⟨rfl, hB1⟩)
    | (refine wpList_load_part rfl 62 (.tmp 11) rfl _ 17 rfl (bools bs) _ (Own.bblo (N0.out.below hB1 N0.out.lt) hl.out) Try.underlying62 rfl (rowbo (o16 _ hk.out)) ?_)
    | (refine wpList_load_part rfl 62 (.tmp 13) rfl _ 17 rfl (bools bs) _ (Own.bblo (N1.out.below hB1 N1.out.lt) hl.out) Try.underlying62 rfl (rowbo (o16 _ hk.out)) ?_)
    | (go_at_call 54; refine (eqBo_same bs hk.out _).mono ?_; rintro e w2 ⟨rfl, hB2⟩))
  go_ret
  have b1 := B0.out.trans (hB1.mono B0.out.size)
  exact ⟨rfl, b1.trans (hB2.mono b1.size)⟩
end Go.Proofs.Ytpjlienelkflhaa
