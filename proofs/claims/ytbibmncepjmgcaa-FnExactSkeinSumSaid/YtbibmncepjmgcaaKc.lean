/- Terms and elements: their cells, and the laws' own copies of them. Slices of int64 that are read: the laws' own copies and comparisons of them. The laws' own copies of terms. Elements: the laws' own copies of them, their sizes, and comparisons of equal ones. The laws' comparisons of equal terms and elements. Both tests of primes. A region that draws its order, by what each of its operations leaves behind: one look at each operation serves every order. strings.Compare: the order of texts. Laws of a slice of bytes that the call itself made. Laws of a slice of bytes that the call itself made, and the contract of the model's text of a diagram. The model's order of diagrams. -/
import Derived.Test.YtbibmncepjmgcaaKa
import Derived.Test.YtbibmncepjmgcaaKb
import Derived.WalkSmall
import Derived.StillTailTactics
import Derived.Deep.QuietTactic
import Derived.BigQuiet
import Derived.Orders
import Derived.Tactics
import Derived.Lib.Bytealg
import Derived.Lib.Strings
namespace Go.Proofs.Ytbibmncepjmgcaa
open Go.RowKit
set_option linter.unusedVariables false
/-- A term: the size and the mates of its diagram, and its factor. -/
abbrev Tm := Int × List Int × Int
def tcl (t : Tm) : List Value := (dcells t.1 t.2.1).toList ++ [.int .i64 t.2.2]
def tsl (ts : List Tm) : List Value := ts.flatMap tcl
def OkTm (t : Tm) : Prop := t.2.1.length = 16 ∧ Bytes t.2.1
theorem tcl_len {t : Tm} (h : t.2.1.length = 16) : (tcl t).length = 18 := by simp [tcl, dcells, h]
theorem tsl_len (ts : List Tm) (h : ∀ t ∈ ts, t.2.1.length = 16) : (tsl ts).length = 18 * ts.length := by
  induction ts with
  | nil => rfl
  | cons t ts ih =>
    have := ih (fun x hx => h x (by simp [hx]))
    show (tcl t ++ tsl ts).length = _
    rw [List.length_append, tcl_len (h t (by simp)), this]; simp; omega
theorem tsl_get (ts : List Tm) (h : ∀ t ∈ ts, t.2.1.length = 16) (i : Nat) (hi : i < ts.length) (j : Nat) (hj : j < 18) : (tsl ts)[18 * i + j]? = (tcl (ts[i]))[j]? := by
  induction ts generalizing i with
  | nil => simp at hi
  | cons t ts ih =>
    have h0 := tcl_len (h t (by simp))
    show (tcl t ++ tsl ts)[18 * i + j]? = _
    cases i with
    | zero => rw [List.getElem?_append_left (by omega)]; simp
    | succ i =>
      rw [List.getElem?_append_right (by omega), h0, show 18 * (i + 1) + j - 18 = 18 * i + j by omega]
      simpa using ih (fun x hx => h x (by simp [hx])) i (by simpa using hi)
theorem one_tcl (t : Tm) : (tcl t).toArray.all (·.oneCell') = true := by simp [tcl, dcells, Value.oneCell']
theorem many_at (A B C vs : List Value) (h : vs.length = B.length) : setMany (A ++ B ++ C).toArray A.length vs = (A ++ vs ++ C).toArray := by
  induction vs generalizing A B with
  | nil => cases B with
    | nil => rfl
    | cons => simp at h
  | cons v vs ih =>
    cases B with
    | nil => simp at h
    | cons b B =>
      have e : (A ++ b :: B ++ C).toArray.setIfInBounds A.length v = ((A ++ [v]) ++ B ++ C).toArray := by
        apply Array.toList_inj.1
        simp [List.set_append_right]
      rw [setMany, e]
      have := ih (A ++ [v]) B (by simpa using h)
      rw [show (A ++ [v]).length = A.length + 1 by simp] at this
      rw [this]; simp
/-- A row of cells is stored in the middle of a block of a call's own. -/
theorem wpList_store_part {P : Program} {ops : Array Oper} {rest : List Oper} {o : Oper} {a : Act} {w : World} {Q : Exit → Act → World → Prop} (hgd : o.guard = none) (ty : TypeId) (x y : Operand) (ho : o.op = .store ty x y)
    (g : Nat) (A B C : List Value) (vs : Array Value) (hx : a.eval x = .pointer (some ⟨g, A.length, none⟩)) (hy : a.eval y = .agg vs) (hl : vs.size = B.length)
    (t : TypeId) (hg : Own w g (A ++ B ++ C).toArray t) (hi : (P.info? ty).map (·.size) = some vs.size) (h1 : vs.all (·.oneCell') = true)
    (h : ∀ w', Own w' g (A ++ vs.toList ++ C).toArray t → Only g w w' → wpList P ops Q rest (a.put o.dst undef) w') : wpList P ops Q (o :: rest) a w := by
  have hth : w.there g A.length vs.size := by
    intro j hj
    refine ⟨?_, hg.free _⟩
    rw [hg.cell, List.getElem?_toArray, List.append_assoc, List.getElem?_append_right (by omega), Nat.add_sub_cancel_left, List.getElem?_append_left (by omega), List.getElem?_eq_getElem (by omega)]
    rfl
  refine wpList_store_mid hgd ty x y ho g A.length vs hx hy hth hi h1 (h _ ?_ (Only.many _ _ _))
  have := hg.many vs.toList A.length
  rwa [many_at A B C vs.toList (by simpa using hl)] at this
theorem Own.part {w : World} {g : Nat} {A B C : List Value} {t : TypeId} (hg : Own w g (A ++ B ++ C).toArray t) : w.rangeAt g A.length B := by
  intro j v hj
  have hlt : j < B.length := (List.getElem?_eq_some_iff.1 hj).1
  rw [hg.cell, List.getElem?_toArray, List.append_assoc, List.getElem?_append_right (by omega), Nat.add_sub_cancel_left, List.getElem?_append_left hlt]
  exact hj
/-- A whole row is read, from wherever it lies. -/
theorem wpList_load_at {P : Program} {ops : Array Oper} {rest : List Oper} {op : Oper} {a : Act} {w : World} {Q : Exit → Act → World → Prop} (hgd : op.guard = none) (ty : TypeId) (x : Operand) (ho : op.op = .load ty x)
    (ad : Addr) (hx : a.eval x = .pointer (some ad)) (cs : List Value) (d : TypeDesc) (hc : ∀ j v, cs[j]? = some v → w.cell? (ad.add j) = some v)
    (hu : P.underlying ty = some d) (hd : d.isRow = true) (hi : (P.info? ty).map (·.size) = some cs.length)
    (h : wpList P ops Q rest (a.put op.dst (.agg cs.toArray)) w) : wpList P ops Q (op :: rest) a w := by
  refine wpList_plain hgd fun _ hK => ?_
  have hv : (loadVar ty ad).run P w = .ok (.agg cs.toArray) w := by
    have hl : (loadCells ad cs.length).run P w = .ok cs.toArray w := run_loadCells_list (P := P) w ad cs hc
    cases hq : P.info? ty with
    | none => simp [hq] at hi
    | some i =>
      have hs : i.size = cs.length := by simpa [hq] using hi
      have hagg : (isAgg ty).run P w = .ok true w := by
        unfold isAgg
        rw [Sem.run_bind, run_underlying hu w]
        cases d <;> simp_all
      simp [loadVar, Sem.run_bind, hagg, sizeOf, typeInfo, hq, hs, hl]
  unfold Oper.wp execOp
  simp only [ho, hx, Instr.loadAt, Instr.sureAddr, Sem.run_bind, Sem.run_pure, Result.andThen_ok, hv]
  exact hK _ _ h
theorem row52 {c : Array Value} (h : c.size = 18) : (Try.prog.info? 56).map (·.size) = some c.size := by rw [h]; kernel_rfl
theorem row77 {c : Array Value} (h : c.size = 18) : (Try.prog.info? 97).map (·.size) = some c.size := by rw [h]; kernel_rfl
def zterm : List Value := tcl (0, zeros, 0)
/-- A part of a block is read, as an array. -/
theorem wpList_load_part {P : Program} {ops : Array Oper} {rest : List Oper} {op : Oper} {a : Act} {w : World} {Q : Exit → Act → World → Prop} (hgd : op.guard = none) (ty : TypeId) (x : Operand) (ho : op.op = .load ty x)
    (b o : Nat) (hx : a.eval x = .pointer (some ⟨b, o, none⟩)) (vs : Array Value) (d : TypeDesc) (hc : w.rangeAt b o vs.toList)
    (hu : P.underlying ty = some d) (hd : d.isRow = true) (hi : (P.info? ty).map (·.size) = some vs.size)
    (h : wpList P ops Q rest (a.put op.dst (.agg vs)) w) : wpList P ops Q (op :: rest) a w :=
  wpList_load_mid hgd ty x ho b o hx vs.toList d hc hu hd (by rw [hi]; simp) (by simpa using h)
theorem tcl_eq (n : Int) (ms : List Int) (k : Int) : tcl (n, ms, k) = [] ++ (dcells n ms).toList ++ [.int .i64 k] := rfl
theorem dl17 {n : Int} {ms : List Int} (h : ms.length = 16) : (dcells n ms).toList.length = 17 := by simp [dcells, h]
set_option maxRecDepth 100000 in
set_option maxHeartbeats 1000000 in
theorem toT_any (t : Tm) (ht : t.2.1.length = 16) (w : World) :
    Calls Try.prog 72 #[.agg (tcl t).toArray] w fun e w' => e = .returned (.agg (tcl t).toArray) ∧ Below w.heap.size w w' := by
  obtain ⟨n, ms, k⟩ := t
  have hl := Lib.hid ht
  have h18 := Lib.hid (show (tcl (n, ms, k)).toArray.size = 18 by rw [List.size_toArray]; exact tcl_len ht)
  have hz18 := Lib.hid (show (tcl (0, zeros, 0)).toArray.size = 18 by rw [List.size_toArray]; exact tcl_len zlen)
  have kk : (tcl (n, ms, k)).toArray[17]? = some (.int .i64 k) := by
    rw [List.getElem?_toArray, tcl_eq, List.nil_append, List.getElem?_append_right (by rw [dl17 ht]; exact Nat.le_refl _), dl17 ht]; rfl
  have kz : (tcl (n, ms, 0)).toArray[17]? = some (.int .i64 0) := by
    rw [List.getElem?_toArray, tcl_eq, List.nil_append, List.getElem?_append_right (by rw [dl17 ht]; exact Nat.le_refl _), dl17 ht]; rfl
  have ks : (tcl (n, ms, 0)).toArray.setIfInBounds 17 (.int .i64 k) = (tcl (n, ms, k)).toArray := by
    apply Array.toList_inj.1
    rw [Array.toList_setIfInBounds, tcl_eq, tcl_eq, List.nil_append, List.set_append_right _ _ (by rw [dl17 ht]; exact Nat.le_refl _), dl17 ht]; rfl
  have KK := Lib.hid kk
  have KZ := Lib.hid kz
  have KS := Lib.hid ks
  clear ht kk kz ks
  go_enter Try.func72, Try.ntmps72
  go_wp2_with (first
    | (refine wpList_load_part rfl 95 (.tmp 4) rfl _ 0 rfl (dcells n ms) _ (Own.part (A := []) (B := (dcells n ms).toList) (C := [.int .i64 k]) (((Own.new w (tcl (n, ms, k)).toArray 97).alloc _).alloc _)) Try.underlying95 rfl (row50 (d17 _ _ hl.out)) ?_)
    | (go_at_call 106; refine (toD_any n ms hl.out _).mono ?_; rintro e w1 ⟨rfl, hB1⟩; have hO1 : Own w1 (w.heap.size + 1 + 1) (tcl (0, zeros, 0)).toArray 56 := (Own.at _ _ _ (by simp)).below hB1 (by simp); have hT1 : Own w1 w.heap.size (tcl (n, ms, k)).toArray 97 := (((Own.new w _ _).alloc _).alloc _).below hB1 (by simp <;> omega); have hR1 : Own w1 (w.heap.size + 1) (tcl (0, zeros, 0)).toArray 56 := ((Own.at _ _ _ (by simp)).alloc _).below hB1 (by simp <;> omega))
    | (refine wpList_store_part rfl 53 (.tmp 7) (.tmp 6) rfl (w.heap.size + 1 + 1) [] (dcells 0 zeros).toList [.int .i64 0] (dcells n ms) rfl rfl (by rw [d17 _ _ hl.out, dl17 zlen]) 56 hO1 (row26 (d17 _ _ hl.out)) (dcells_one _ _) ?_; intro w2 hO2' hN2; have hO2 : Own w2 (w.heap.size + 1 + 1) (tcl (n, ms, 0)).toArray 56 := hO2'; have hT2 := hT1.only hN2 (by omega); have hR2 := hR1.only hN2 (by omega); have c1 := hT2.cell 17; rw [KK.out] at c1; have c2 := hO2.cell 17; rw [KZ.out] at c2; have f2 := hO2.free 17; have hO3 := hO2.set 17 (.int .i64 k); rw [KS.out] at hO3; have hR3 := hR2.other (a := ⟨w.heap.size + 1 + 1, 17, none⟩) (by simp) (.int .i64 k); have hO3' := Lib.hid hO3; have hR3' := Lib.hid hR3; clear hO3 hR3 hO2')
    | (refine wpList_load_row rfl 56 _ rfl _ rfl 56 _ (0, 0) _ hO3'.out Try.underlying56 rfl (row52 h18.out) ?_)
    | (refine wpList_store_own rfl 56 _ _ rfl _ _ rfl rfl 56 _ hR3'.out (row52 h18.out) (by rw [hz18.out, h18.out]) (one_tcl _) ?_; intro w4 hO4 hN4))
  refine bodyPost_ret (v := .agg (tcl (n, ms, k)).toArray) (results_cell_row rfl _ _ _ _ _ (0, 0) _ rfl hO4 Try.underlying56 rfl (row52 h18.out)) rfl ⟨rfl, ?_⟩
  have b0 : Below w.heap.size w (((w.alloc (.cells (tcl (n, ms, k)).toArray 97)).alloc (.cells (tcl (0, zeros, 0)).toArray 56)).alloc (.cells (tcl (0, zeros, 0)).toArray 56)) := (((Below.refl _ _).alloc (Nat.le_refl _) _).alloc (by simp) _).alloc (by simp; omega) _
  have b1 : Below w.heap.size w w1 := b0.trans (hB1.mono b0.size)
  have b2 := b1.trans (hN2.below.mono (by omega))
  have b3 := b2.setCell (p := ⟨w.heap.size + 1 + 1, 17, none⟩) (by simp; omega) (.int .i64 k)
  exact b3.trans (hN4.below.mono (by omega))
end Go.Proofs.Ytbibmncepjmgcaa
namespace Go.Proofs.Ytbibmncepjmgcaa
open Go.RowKit
/-- The numbers that can be read through a slice's pointer. -/
structure Rd (w : World) (p : Option Addr) (xs : List Int) : Prop where
  cell : ∀ a, p = some a → ∀ j, j < xs.length → w.cell? (a.add j) = some (.int .i64 (xs.getD j 0))
  nil : p = none → xs = []
theorem Rd.below {w w' : World} {p : Option Addr} {xs : List Int} (h : Rd w p xs) (hb : Below w.heap.size w w') : Rd w' p xs := by
  refine ⟨fun a e j hj => ?_, h.nil⟩
  have hc := h.cell a e j hj
  have hlt : (a.add j).block < w.heap.size := by
    refine Decidable.byContradiction fun hn => ?_
    unfold World.cell? at hc
    rw [Array.getElem?_eq_none (by omega)] at hc
    simp at hc
  have : w'.cell? (a.add j) = w.cell? (a.add j) := by unfold World.cell?; rw [hb.block _ hlt]
  rw [this]; exact hc
def icells (xs : List Int) : Array Value := (xs.map (Value.int .i64)).toArray
theorem icells_size (xs : List Int) : (icells xs).size = xs.length := by simp [icells]
theorem icells_get (xs : List Int) (i : Nat) (h : i < xs.length) : (icells xs)[i]? = some (.int .i64 (xs.getD i 0)) := by simp [icells, h]
theorem icells_set (xs : List Int) (i : Nat) (x : Int) : (icells xs).setIfInBounds i (.int .i64 x) = icells (xs.set i x) := by simp [icells, List.map_set]
theorem Rd.own {w : World} {g : Nat} {xs : List Int} (h : Own w g (icells xs) 2) : Rd w (some ⟨g, 0, none⟩) xs := by
  refine ⟨fun a e j hj => ?_, fun e => by cases e⟩
  cases e
  have : (⟨g, 0, none⟩ : Addr).add j = ⟨g, j, none⟩ := by rw [Addr.add_mid, Nat.zero_add]
  rw [this, h.cell, icells_get _ _ hj]
/-- The first k numbers, and zeros behind them. -/
def cpI (xs : List Int) (k : Nat) : List Int := xs.take k ++ List.replicate (xs.length - k) 0
theorem cpI_len (xs : List Int) (k : Nat) (h : k ≤ xs.length) : (cpI xs k).length = xs.length := by simp [cpI]; omega
theorem cpI_set (xs : List Int) (k : Nat) (h : k < xs.length) : (cpI xs k).set k (xs.getD k 0) = cpI xs (k + 1) := by
  apply List.ext_getElem?
  intro i
  rw [List.getElem?_set]
  have l1 : (xs.take k).length = k := by simp; omega
  have l2 : (xs.take (k + 1)).length = k + 1 := by simp; omega
  unfold cpI
  by_cases e : k = i
  · subst e
    rw [if_pos rfl, if_pos (by simp; omega), List.getElem?_append_left (by omega), List.getElem?_take_of_lt (by omega), List.getD_eq_getElem?_getD, List.getElem?_eq_getElem h]; rfl
  · rw [if_neg e]
    by_cases c : i < k
    · rw [List.getElem?_append_left (by omega), List.getElem?_append_left (by omega), List.getElem?_take_of_lt c, List.getElem?_take_of_lt (by omega)]
    · rw [List.getElem?_append_right (by omega), List.getElem?_append_right (by omega), List.getElem?_replicate, List.getElem?_replicate, l1, l2]
      congr 1
      simp; omega
theorem cpI_end (xs : List Int) : cpI xs xs.length = xs := by simp [cpI]
theorem cpI_zero (xs : List Int) : icells (cpI xs 0) = Array.replicate xs.length (.int .i64 0) := by
  apply Array.toList_inj.1
  simp [icells, cpI]
theorem made64 (n : Nat) : madeCells #[Value.int .i64 0] n = icells (List.replicate n 0) := by
  apply Array.toList_inj.1
  unfold madeCells icells
  simp only [Array.toList_map, Array.toList_range, List.map_replicate]
  apply List.ext_getElem?
  intro i
  rw [List.getElem?_map, List.getElem?_replicate]
  by_cases h : i < n
  · rw [List.getElem?_range h, if_pos h]
    simp [Nat.mod_one]
  · rw [if_neg h, List.getElem?_eq_none (by simpa using h)]; rfl
theorem makeI (n : Nat) (hn : n ≤ 1048576) : ∀ w : World, (Instr.makeSlice 34 (.int .i64 n) (.int .i64 n)).run Try.prog w = .ok (.slice (some ⟨w.heap.size, 0, none⟩) n n) (w.alloc (.cells (icells (List.replicate n 0)) 2)) := by
  intro w
  obtain ⟨i0, hi0, hz0, hz1, hz2⟩ := info_parts info64
  have := run_make w 34 2 i0 (.int .i64 0) Try.underlying34 hi0 hz0 .i64 .i64 (n : Int) (n : Int) (by omega) (by omega) (by rw [hz2]; omega) (by omega)
  rw [this, hz1]
  simp only [Int.toNat_natCast, Nat.mul_one]
  rw [← made64]
  rfl
set_option maxRecDepth 100000 in
set_option maxHeartbeats 1000000 in
theorem toI_any (p : Option Addr) (cap : Nat) (xs : List Int) (hx : xs.length ≤ 1048576) (w : World) (hR : Rd w p xs) :
    Calls Try.prog 15 #[.slice p xs.length cap] w fun e w' => e = .returned (.slice (some ⟨w.heap.size, 0, none⟩) xs.length xs.length) ∧ Own w' w.heap.size (icells xs) 2 ∧ Below w.heap.size w w' := by
  have hmk := makeI xs.length hx
  obtain ⟨n, hn⟩ : ∃ n, xs.length = n := ⟨_, rfl⟩
  have hR' := Lib.hid hR
  have hz := Lib.hid (show icells (List.replicate xs.length 0) = icells (cpI xs 0) by simp [cpI])
  rw [hn] at hmk hx hz ⊢
  have hN := Lib.hid hn
  clear hR hn
  go_enter Try.func15, Try.ntmps15
  go_wp2
  clear hmk
  go_loopw [4] (fun i wr => ∃ k : Nat, k ≤ n ∧ i = .int .i64 k ∧ Own wr w.heap.size (icells (cpI xs k)) 2 ∧ Below w.heap.size w wr) (fun i _ => ((n : Int) - intOf i).toNat)
  case atStart => exact ⟨0, by omega, rfl, by rw [← hz.out]; exact Own.new _ _ _, (Below.refl _ _).alloc (Nat.le_refl _) _⟩
  case round =>
    obtain ⟨k, hk, rfl, hO, hB⟩ := hrel
    by_cases hlt : k < n
    · have hl := Lib.hid (cpI_len xs k (by rw [hN.out]; exact hk))
      cases p with
      | none => exfalso; have h1 := hR'.out.nil rfl; have h2 := hN.out; rw [h1] at h2; simp at h2; omega
      | some a =>
        have c1 := (hR'.out.below hB).cell a rfl k (by rw [hN.out]; exact hlt)
        have c2 := hO.cell k
        rw [icells_get _ _ (by rw [hl.out, hN.out]; exact hlt)] at c2
        have f2 := hO.free k
        have hO2 := hO.set k (.int .i64 (xs.getD k 0))
        rw [icells_set, cpI_set _ _ (by rw [hN.out]; exact hlt)] at hO2
        have hB2 := hB.setCell (p := ⟨w.heap.size, k, none⟩) (by simp) (.int .i64 (xs.getD k 0))
        have K1 := Lib.hid hO2
        clear hO2
        go_wp2
        go_roundw
        case rel => exact ⟨k + 1, by omega, by go_num, K1.out, hB2⟩
        case measure => simp [intOf]; omega
    · have hk2 : k = n := by omega
      subst hk2
      have hE := Lib.hid (show Own wr w.heap.size (icells xs) 2 by rw [← cpI_end xs, hN.out]; exact hO)
      go_wp2
      go_ret
      exact ⟨rfl, hE.out, hB⟩
set_option maxRecDepth 100000 in
set_option maxHeartbeats 1000000 in
theorem eqI_same (p q : Option Addr) (cap cap' : Nat) (xs : List Int) (hx : xs.length ≤ 4194304) (w : World) (hR : Rd w p xs) (hQ : Rd w q xs) :
    Calls Try.prog 17 #[.slice p xs.length cap, .slice q xs.length cap'] w fun e w' => e = .returned (.bool true) ∧ Below w.heap.size w w' := by
  obtain ⟨n, hn⟩ : ∃ n, xs.length = n := ⟨_, rfl⟩
  have hR' := Lib.hid hR
  have hQ' := Lib.hid hQ
  rw [hn] at hx ⊢
  have hN := Lib.hid hn
  clear hR hQ hn
  go_enter Try.func17, Try.ntmps17
  go_wp2
  go_loopw [5] (fun i wr => ∃ k : Nat, k ≤ n ∧ i = .int .i64 k ∧ Below w.heap.size w wr) (fun i _ => ((n : Int) - intOf i).toNat)
  case atStart => exact ⟨0, by omega, rfl, Below.refl _ _⟩
  case round =>
    obtain ⟨k, hk, rfl, hB⟩ := hrel
    by_cases hlt : k < n
    · cases p with
      | none => exfalso; have h1 := hR'.out.nil rfl; have h2 := hN.out; rw [h1] at h2; simp at h2; omega
      | some a =>
        cases q with
        | none => exfalso; have h1 := hQ'.out.nil rfl; have h2 := hN.out; rw [h1] at h2; simp at h2; omega
        | some b =>
          have c1 := (hR'.out.below hB).cell a rfl k (by rw [hN.out]; exact hlt)
          have c2 := (hQ'.out.below hB).cell b rfl k (by rw [hN.out]; exact hlt)
          have i1 : (k : Int) < (n : Int) := by omega
          go_wp2
          go_quiet (fail)
          go_wp2
          go_roundw
          case rel => exact ⟨k + 1, by omega, by go_num, Below.drewN hB _⟩
          case measure => simp [intOf]; omega
    · have hk2 : k = n := by omega
      subst hk2
      go_wp2
      go_ret
      exact ⟨rfl, hB⟩
theorem rd_some {w : World} {p : Option Addr} {xs : List Int} (h : Rd w p xs) {k : Nat} (hk : k < xs.length) : ∃ a, p = some a := by
  cases p with
  | none => rw [h.nil rfl] at hk; simp at hk
  | some a => exact ⟨a, rfl⟩
theorem drop_step (xs : List Int) (k : Nat) (h : k < xs.length) : xs.drop k = xs.getD k 0 :: xs.drop (k + 1) := by
  rw [List.drop_eq_getElem_cons h, List.getD_eq_getElem?_getD, List.getElem?_eq_getElem h]; rfl
end Go.Proofs.Ytbibmncepjmgcaa
namespace Go.Proofs.Ytbibmncepjmgcaa
open Go.RowKit
set_option linter.unusedVariables false
def zT : Tm := (0, zeros, 0)
/-- The terms that can be read through a slice's pointer. -/
structure RdT (w : World) (p : Option Addr) (ts : List Tm) : Prop where
  cell : ∀ a, p = some a → ∀ k, k < ts.length → ∀ j v, (tcl (ts.getD k zT))[j]? = some v → w.cell? ((a.add (k * 18)).add j) = some v
  nil : p = none → ts = []
theorem RdT.below {w w' : World} {p : Option Addr} {ts : List Tm} (h : RdT w p ts) (hb : Below w.heap.size w w') : RdT w' p ts := by
  refine ⟨fun a e k hk j v hv => ?_, h.nil⟩
  have hc := h.cell a e k hk j v hv
  have hlt : ((a.add (k * 18)).add j).block < w.heap.size := by
    refine Decidable.byContradiction fun hn => ?_
    unfold World.cell? at hc
    rw [Array.getElem?_eq_none (by omega)] at hc
    simp at hc
  have : w'.cell? ((a.add (k * 18)).add j) = w.cell? ((a.add (k * 18)).add j) := by unfold World.cell?; rw [hb.block _ hlt]
  rw [this]; exact hc
theorem tsl_app (xs ys : List Tm) : tsl (xs ++ ys) = tsl xs ++ tsl ys := by simp [tsl]
theorem tsl_cons (x : Tm) (ys : List Tm) : tsl (x :: ys) = tcl x ++ tsl ys := by simp [tsl]
theorem zT_len : (tcl zT).length = 18 := tcl_len zlen
theorem info52 : (Try.prog.info? 56).map (fun i => (i.zero, i.size, i.bytes)) = some (some (.agg (tcl zT).toArray), 18, 32) := by kernel_rfl
theorem rep_get (n : Nat) (i : Nat) (h : i < 18 * n) : (tsl (List.replicate n zT))[i]? = (tcl zT)[i % 18]? := by
  induction n generalizing i with
  | zero => omega
  | succ n ih =>
    rw [List.replicate_succ, tsl_cons]
    by_cases h2 : i < 18
    · rw [List.getElem?_append_left (by rw [zT_len]; exact h2), Nat.mod_eq_of_lt h2]
    · rw [List.getElem?_append_right (by rw [zT_len]; omega), zT_len, ih (i - 18) (by omega)]
      congr 1; omega
theorem rep_len (n : Nat) : (tsl (List.replicate n zT)).length = 18 * n := by
  have := tsl_len (List.replicate n zT) (fun t ht => by rw [List.eq_of_mem_replicate ht]; exact zlen)
  simpa using this
theorem madeT (n : Nat) : madeCells (tcl zT).toArray (n * 18) = (tsl (List.replicate n zT)).toArray := by
  apply Array.toList_inj.1
  unfold madeCells
  rw [Array.toList_map, Array.toList_range]
  apply List.ext_getElem?
  intro i
  rw [List.getElem?_map]
  have hs : (tcl zT).toArray.size = 18 := by rw [List.size_toArray]; exact zT_len
  by_cases h : i < n * 18
  · rw [List.getElem?_range h, rep_get n i (by omega), Option.map_some, hs]
    have h3 : i % 18 < (tcl zT).length := by rw [zT_len]; omega
    have h4 : i % 18 < (tcl zT).toArray.size := by rw [hs]; omega
    rw [List.getElem?_eq_getElem h3, getElem!_pos (tcl zT).toArray (i % 18) h4]; rfl
  · rw [List.getElem?_eq_none (by simp; omega), List.getElem?_eq_none (by rw [rep_len]; omega)]; rfl
set_option maxRecDepth 100000 in
theorem makeT (n : Nat) (hn : n ≤ 1048576) : ∀ w : World, (Instr.makeSlice 28 (.int .i64 n) (.int .i64 n)).run Try.prog w = .ok (.slice (some ⟨w.heap.size, 0, none⟩) n n) (w.alloc (.cells (tsl (List.replicate n zT)).toArray 56)) := by
  intro w
  obtain ⟨i0, hi0, hz0, hz1, hz2⟩ := info_parts info52
  have := run_make w 28 56 i0 (.agg (tcl zT).toArray) Try.underlying28 hi0 hz0 .i64 .i64 (n : Int) (n : Int) (by omega) (by omega) (by rw [hz2]; omega) (by omega)
  rw [this, hz1]
  simp only [Int.toNat_natCast]
  rw [← madeT]
  rfl
/-- The first k terms, and empty ones behind them. -/
def cpT (ts : List Tm) (k : Nat) : List Tm := ts.take k ++ List.replicate (ts.length - k) zT
theorem cpT_cut (ts : List Tm) (k : Nat) (h : k < ts.length) : tsl (cpT ts k) = tsl (ts.take k) ++ tcl zT ++ tsl (List.replicate (ts.length - (k + 1)) zT) := by
  rw [cpT, tsl_app, show ts.length - k = (ts.length - (k + 1)) + 1 by omega, List.replicate_succ, tsl_cons, List.append_assoc]
theorem cpT_next (ts : List Tm) (k : Nat) (h : k < ts.length) : tsl (ts.take k) ++ tcl (ts.getD k zT) ++ tsl (List.replicate (ts.length - (k + 1)) zT) = tsl (cpT ts (k + 1)) := by
  rw [cpT, tsl_app, List.take_add_one, tsl_app, List.getD_eq_getElem?_getD, List.getElem?_eq_getElem h]
  simp [tsl]
theorem cpT_end (ts : List Tm) : cpT ts ts.length = ts := by simp [cpT]
theorem cpT_zero (ts : List Tm) : cpT ts 0 = List.replicate ts.length zT := by simp [cpT]
set_option maxRecDepth 100000 in
set_option maxHeartbeats 1000000 in
theorem toTS_any (p : Option Addr) (cap : Nat) (ts : List Tm) (hts : ∀ t ∈ ts, t.2.1.length = 16) (hx : ts.length ≤ 1048576) (w : World) (hR : RdT w p ts) :
    Calls Try.prog 35 #[.slice p ts.length cap] w fun e w' => e = .returned (.slice (some ⟨w.heap.size, 0, none⟩) ts.length ts.length) ∧ Own w' w.heap.size (tsl ts).toArray 56 ∧ Below w.heap.size w w' := by
  have hmk := makeT ts.length hx
  obtain ⟨n, hn⟩ : ∃ n, ts.length = n := ⟨_, rfl⟩
  have hR' := Lib.hid hR
  have hT := Lib.hid hts
  have hz := Lib.hid (cpT_zero ts)
  rw [hn] at hmk hx hz ⊢
  have hN := Lib.hid hn
  clear hR hn hts
  go_enter Try.func35, Try.ntmps35
  go_wp2
  clear hmk
  go_loopw [4] (fun i wr => ∃ k : Nat, k ≤ n ∧ i = .int .i64 k ∧ Own wr w.heap.size (tsl (cpT ts k)).toArray 56 ∧ Below w.heap.size w wr) (fun i _ => ((n : Int) - intOf i).toNat)
  case atStart => exact ⟨0, by omega, rfl, by rw [hz.out]; exact Own.new _ _ _, (Below.refl _ _).alloc (Nat.le_refl _) _⟩
  case round =>
    obtain ⟨k, hk, rfl, hO, hB⟩ := hrel
    by_cases hlt : k < n
    · have hkt : k < ts.length := by rw [hN.out]; exact hlt
      cases p with
      | none => exfalso; have h1 := hR'.out.nil rfl; rw [h1] at hkt; simp at hkt
      | some a =>
        have hc := Lib.hid ((hR'.out.below hB).cell a rfl k hkt)
        have hO1 : Own wr w.heap.size (tsl (ts.take k) ++ tcl zT ++ tsl (List.replicate (ts.length - (k + 1)) zT)).toArray 56 := by rw [← cpT_cut ts k hkt]; exact hO
        have hAl := Lib.hid (show (tsl (ts.take k)).length = k * 18 by
          rw [tsl_len _ (fun t ht => hT.out t (List.mem_of_mem_take ht)), List.length_take, Nat.min_eq_left (by omega), Nat.mul_comm])
        have hnx := Lib.hid (cpT_next ts k hkt)
        obtain ⟨t, ht⟩ : ∃ t, ts.getD k zT = t := ⟨_, rfl⟩
        have ht16 : t.2.1.length = 16 := by rw [← ht, List.getD_eq_getElem?_getD, List.getElem?_eq_getElem hkt]; exact hT.out _ (List.getElem_mem hkt)
        have h18 := Lib.hid (tcl_len ht16)
        have hto := Lib.hid (fun w => toT_any t ht16 w)
        rw [ht] at hc hnx
        clear ht hkt ht16 hO
        go_wp2_with (first
          | (refine wpList_load_at rfl 97 (.tmp 18) rfl (a.add (k * 18)) rfl (tcl t) _ hc.out Try.underlying97 rfl (by rw [h18.out]; kernel_rfl) ?_)
          | ((go_at_call 72; ((with_reducible refine (hto.out _).mono ?_); rintro e w2 ⟨rfl, hB2⟩)); have hO2 := hO1.below hB2 hO1.lt; have b2 := hB.trans (hB2.mono hB.size))
          | (refine wpList_store_part rfl 56 (.tmp 21) (.tmp 20) rfl w.heap.size (tsl (ts.take k)) (tcl zT) (tsl (List.replicate (ts.length - (k + 1)) zT)) (tcl t).toArray (by rw [hAl.out]; first | rfl | simp) rfl (by rw [List.size_toArray, h18.out, zT_len]) 56 hO2 (row52 (by rw [List.size_toArray, h18.out])) (one_tcl _) ?_; intro w3 hO3 hN3; have b3 := b2.trans (hN3.below.mono (Nat.le_refl _)); rw [hnx.out] at hO3))
        go_roundw
        case rel => exact ⟨k + 1, by omega, by go_num, hO3, b3⟩
        case measure => simp [intOf]; omega
    · have hk2 : k = n := by omega
      subst hk2
      have hE := Lib.hid (show Own wr w.heap.size (tsl ts).toArray 56 by rw [← cpT_end ts, hN.out]; exact hO)
      go_wp2
      go_ret
      exact ⟨rfl, hE.out, hB⟩
end Go.Proofs.Ytbibmncepjmgcaa
namespace Go.Proofs.Ytbibmncepjmgcaa
open Go.RowKit
set_option linter.unusedVariables false
/-- The cells of an element: prime, loop, size, terms. -/
def ecl (p c n : Int) (v : Value) : Array Value := #[.int .i64 p, .int .i64 c, .int .i64 n, v]
set_option maxRecDepth 100000 in
theorem szTS_any (q : Option Addr) (len cap : Nat) (l : Int) (w : World) (hl : len ≤ maxLen) (h0 : 0 ≤ l) (h1 : l ≤ 1048576) :
    Calls Try.prog 29 #[.slice q len cap, .int .i64 l] w fun e w' => e = .returned (.int .i64 (if l - len < 0 then -1 else l - len)) ∧ w' = w := by
  unfold maxLen at hl
  by_cases h : l - len < 0
  · rw [if_pos h]
    go_enter Try.func29, Try.ntmps29
    go_wp2
    go_ret
    exact ⟨rfl, rfl⟩
  · rw [if_neg h]
    go_enter Try.func29, Try.ntmps29
    go_wp2
    go_ret
    exact ⟨rfl, rfl⟩
set_option maxRecDepth 100000 in
theorem szE_any (p c n : Int) (q : Option Addr) (len cap : Nat) (l : Int) (w : World) (hl : len ≤ maxLen) (h0 : 0 ≤ l) (h1 : l ≤ 1048576) :
    Calls Try.prog 9 #[.agg (ecl p c n (.slice q len cap)), .int .i64 l] w fun e w' => e = .returned (.int .i64 (if l - len < 0 then -1 else l - len)) ∧ Below w.heap.size w w' := by
  have hs := Lib.hid (fun w => szTS_any q len cap l w hl h0 h1)
  unfold ecl
  by_cases h : l - len < 0
  · rw [if_pos h] at hs ⊢
    clear hl
    go_enter Try.func9, Try.ntmps9
    go_wp2_with (first
      | (go_at_call 29; ((with_reducible refine (hs.out _).mono ?_); rintro e w1 ⟨rfl, hw⟩)))
    subst hw
    go_ret
    exact ⟨rfl, (Below.refl _ _).alloc (Nat.le_refl _) _⟩
  · rw [if_neg h] at hs ⊢
    have h2 : ¬ (l - len < 0) := h
    generalize l - (len : Int) = r at *
    clear hl
    go_enter Try.func9, Try.ntmps9
    go_wp2_with (first
      | (go_at_call 29; ((with_reducible refine (hs.out _).mono ?_); rintro e w1 ⟨rfl, hw⟩)))
    subst hw
    go_ret
    exact ⟨rfl, (Below.refl _ _).alloc (Nat.le_refl _) _⟩
set_option maxRecDepth 100000 in
set_option maxHeartbeats 1000000 in
theorem toE_any (p c n : Int) (q : Option Addr) (cap : Nat) (ts : List Tm) (hts : ∀ t ∈ ts, t.2.1.length = 16) (hx : ts.length ≤ 1048576) (w : World) (hR : RdT w q ts) :
    Calls Try.prog 11 #[.agg (ecl p c n (.slice q ts.length cap))] w fun e w' => e = .returned (.agg (ecl p c n (.slice (some ⟨w.heap.size + 3, 0, none⟩) ts.length ts.length))) ∧ Own w' (w.heap.size + 3) (tsl ts).toArray 56 ∧ Below w.heap.size w w' := by
  have hto := Lib.hid (fun w hR => toTS_any q cap ts hts hx w hR)
  have hR' := Lib.hid (fun w' (hB : Below w.heap.size w w') => hR.below hB)
  obtain ⟨m, hm⟩ : ∃ m, ts.length = m := ⟨_, rfl⟩
  rw [hm] at hto ⊢
  unfold ecl
  clear hR hts hm
  go_enter Try.func11, Try.ntmps11
  have h3 := Lib.hid (fun (A B C : Obj) => show Below w.heap.size w (((w.alloc A).alloc B).alloc C) from (((Below.refl _ w).alloc (Nat.le_refl _) A).alloc (by simp) B).alloc (by simp; omega) C)
  go_wp2_with (first
    | (go_at_call 35; ((with_reducible refine (hto.out _ (hR'.out _ (h3.out _ _ _))).mono ?_); rintro e w1 ⟨he, hO1, hB1⟩; have he' : e = .returned (.slice (some ⟨w.heap.size + 3, 0, none⟩) m m) := (by simpa using he); subst he'; have hO2 : Own w1 (w.heap.size + 3) (tsl ts).toArray 56 := (by simpa using hO1); have hC : Own w1 (w.heap.size + 1 + 1) #[.int .i64 p, .int .i64 c, .int .i64 n, .slice none 0 0] 30 := (Own.at _ _ _ (by simp)).below hB1 (by simp); have hD : Own w1 (w.heap.size + 1) #[.int .i64 0, .int .i64 0, .int .i64 0, .slice none 0 0] 30 := ((Own.at _ _ _ (by simp)).alloc _).below hB1 (by simp <;> omega); have b1 : Below w.heap.size w w1 := (h3.out _ _ _).trans (hB1.mono (h3.out _ _ _).size); have c3 : w1.cell? ⟨w.heap.size + 1 + 1, 3, none⟩ = some (.slice none 0 0) := hC.cell 3; have f3 := hC.free 3; have hC2 := Lib.hid (show Own (w1.setCell ⟨w.heap.size + 1 + 1, 3, none⟩ (.slice (some ⟨w.heap.size + 3, 0, none⟩) m m)) (w.heap.size + 1 + 1) #[.int .i64 p, .int .i64 c, .int .i64 n, .slice (some ⟨w.heap.size + 3, 0, none⟩) m m] 30 from hC.set 3 _); have hD2 := Lib.hid (hD.other (a := ⟨w.heap.size + 1 + 1, 3, none⟩) (by simp) (.slice (some ⟨w.heap.size + 3, 0, none⟩) m m)); have hO3 := Lib.hid (hO2.other (a := ⟨w.heap.size + 1 + 1, 3, none⟩) (by simp) (.slice (some ⟨w.heap.size + 3, 0, none⟩) m m)); have b2 := Lib.hid (b1.setCell (p := ⟨w.heap.size + 1 + 1, 3, none⟩) (by simp; omega) (.slice (some ⟨w.heap.size + 3, 0, none⟩) m m)); clear he hO1 hO2 hB1 hC hD))
    | (refine wpList_load_row rfl 30 _ rfl _ rfl 30 _ (0, 0) _ hC2.out Try.underlying30 rfl (by kernel_rfl) ?_)
    | (refine wpList_store_own rfl 30 _ _ rfl _ _ rfl rfl 30 _ hD2.out (by kernel_rfl) rfl (by simp [Value.oneCell']) ?_; intro w4 hO4 hN4))
  refine bodyPost_ret (v := .agg #[.int .i64 p, .int .i64 c, .int .i64 n, .slice (some ⟨w.heap.size + 3, 0, none⟩) m m]) (results_cell_row rfl _ _ _ _ _ (0, 0) _ rfl hO4 Try.underlying30 rfl (by kernel_rfl)) rfl ⟨rfl, hO3.out.only hN4 (by simp), b2.out.trans (hN4.below.mono (Nat.le_succ _))⟩
end Go.Proofs.Ytbibmncepjmgcaa
namespace Go.Proofs.Ytbibmncepjmgcaa
open Go.RowKit
set_option linter.unusedVariables false
set_option maxRecDepth 100000 in
set_option maxHeartbeats 1000000 in
theorem eqT_same (t : Tm) (ht : t.2.1.length = 16) (w : World) :
    Calls Try.prog 82 #[.agg (tcl t).toArray, .agg (tcl t).toArray] w fun e w' => e = .returned (.bool true) ∧ Below w.heap.size w w' := by
  obtain ⟨n, ms, k⟩ := t
  have hl := Lib.hid ht
  have kk : (tcl (n, ms, k)).toArray[17]? = some (.int .i64 k) := by
    rw [List.getElem?_toArray, tcl_eq, List.nil_append, List.getElem?_append_right (by rw [dl17 ht]; exact Nat.le_refl _), dl17 ht]; rfl
  have KK := Lib.hid kk
  clear ht kk
  go_enter Try.func82, Try.ntmps82
  go_wp2_with (first
    | (refine wpList_load_part rfl 53 (.tmp 5) rfl _ 0 rfl (dcells n ms) _ (Own.part (A := []) (B := (dcells n ms).toList) (C := [.int .i64 k]) ((Own.new w (tcl (n, ms, k)).toArray 56).alloc _)) Try.underlying53 rfl (row26 (d17 _ _ hl.out)) ?_)
    | (refine wpList_load_part rfl 53 (.tmp 7) rfl _ 0 rfl (dcells n ms) _ (Own.part (A := []) (B := (dcells n ms).toList) (C := [.int .i64 k]) (Own.at _ (tcl (n, ms, k)).toArray 56 (by simp))) Try.underlying53 rfl (row26 (d17 _ _ hl.out)) ?_)
    | (go_at_call 112; refine (eqD_same n ms hl.out _).mono ?_; rintro e w1 ⟨rfl, hB1⟩; have hO1 : Own w1 w.heap.size (tcl (n, ms, k)).toArray 56 := ((Own.new w _ _).alloc _).below hB1 (by simp <;> omega); have hO2 : Own w1 (w.heap.size + 1) (tcl (n, ms, k)).toArray 56 := (Own.at _ _ _ (by simp)).below hB1 (by simp); have c1 := hO1.cell 17; have c2 := hO2.cell 17; rw [KK.out] at c1 c2))
  go_ret
  exact ⟨rfl, (((Below.refl _ _).alloc (Nat.le_refl _) _).alloc (by simp) _).trans (hB1.mono (by simp; omega))⟩
/-- A whole row is read, from wherever it lies, in a region that draws its order. -/
theorem still_load_at {P : Program} {o : Oper} {a : Act} {w : World} {K : Act → Prop} (ty : TypeId) (x : Operand) (ho : o.op = .load ty x)
    (ad : Addr) (hx : a.eval x = .pointer (some ad)) (cs : List Value) (d : TypeDesc) (hc : ∀ j v, cs[j]? = some v → w.cell? (ad.add j) = some v)
    (hu : P.underlying ty = some d) (hd : d.isRow = true) (hi : (P.info? ty).map (·.size) = some cs.length)
    (h : K (a.put o.dst (.agg cs.toArray))) : o.still P a w K := by
  have hv : (loadVar ty ad).run P w = .ok (.agg cs.toArray) w := by
    have hl : (loadCells ad cs.length).run P w = .ok cs.toArray w := run_loadCells_list (P := P) w ad cs hc
    cases hq : P.info? ty with
    | none => simp [hq] at hi
    | some i =>
      have hs : i.size = cs.length := by simpa [hq] using hi
      have hagg : (isAgg ty).run P w = .ok true w := by
        unfold isAgg
        rw [Sem.run_bind, run_underlying hu w]
        cases d <;> simp_all
      simp [loadVar, Sem.run_bind, hagg, sizeOf, typeInfo, hq, hs, hl]
  unfold Oper.still execOp
  simp only [ho, hx, Instr.loadAt, Instr.sureAddr, Sem.run_bind, Sem.run_pure, Result.andThen_ok, hv]
  rw [Oper.stillUpon_value]; exact h
theorem tsl_cut (ts : List Tm) (k : Nat) (hk : k < ts.length) : tsl ts = tsl (ts.take k) ++ tcl (ts.getD k zT) ++ tsl (ts.drop (k + 1)) := by
  have e : ts = ts.take k ++ ts.getD k zT :: ts.drop (k + 1) := by
    rw [List.getD_eq_getElem?_getD, List.getElem?_eq_getElem hk, Option.getD_some, List.getElem_cons_drop, List.take_append_drop]
  have := congrArg tsl e
  rw [tsl_app, tsl_cons, ← List.append_assoc] at this
  exact this
theorem Own.rdT {w : World} {g : Nat} {ts : List Tm} (h : Own w g (tsl ts).toArray 56) (hts : ∀ t ∈ ts, t.2.1.length = 16) : RdT w (some ⟨g, 0, none⟩) ts := by
  refine ⟨fun a e k hk j v hv => ?_, fun e => by cases e⟩
  cases e
  have hAl : (tsl (ts.take k)).length = k * 18 := by
    rw [tsl_len _ (fun t ht => hts t (List.mem_of_mem_take ht)), List.length_take, Nat.min_eq_left (by omega), Nat.mul_comm]
  rw [tsl_cut ts k hk] at h
  have := Own.part h j v hv
  rw [Addr.add_mid, Addr.add_mid, Nat.zero_add, ← hAl]
  exact this
set_option maxRecDepth 100000 in
set_option maxHeartbeats 1000000 in
theorem eqTS_same (a b : Nat) (cap cap' : Nat) (ts : List Tm) (hts : ∀ t ∈ ts, t.2.1.length = 16) (hx : ts.length ≤ 1048576) (w : World) (hA : Own w a (tsl ts).toArray 56) (hB : Own w b (tsl ts).toArray 56) :
    Calls Try.prog 41 #[.slice (some ⟨a, 0, none⟩) ts.length cap, .slice (some ⟨b, 0, none⟩) ts.length cap'] w fun e w' => e = .returned (.bool true) ∧ Below w.heap.size w w' := by
  obtain ⟨n, hn⟩ : ∃ n, ts.length = n := ⟨_, rfl⟩
  have hA' := Lib.hid hA
  have hB' := Lib.hid hB
  have hT := Lib.hid hts
  have hN := Lib.hid hn
  rw [hn] at hx ⊢
  clear hA hB hn hts
  go_enter Try.func41, Try.ntmps41
  go_wp2
  go_loopw [5] (fun i wr => ∃ k : Nat, k ≤ n ∧ i = .int .i64 k ∧ Below w.heap.size w wr) (fun i _ => ((n : Int) - intOf i).toNat)
  case atStart => exact ⟨0, by omega, rfl, Below.refl _ _⟩
  case round =>
    obtain ⟨k, hk, rfl, hB⟩ := hrel
    by_cases hlt : k < n
    · have hkt : k < ts.length := by rw [hN.out]; exact hlt
      have rA := Lib.hid (fun wd (hd : Below w.heap.size w wd) => ((hA'.out.below hd hA'.out.lt).rdT hT.out).cell _ rfl k hkt)
      have rB := Lib.hid (fun wd (hd : Below w.heap.size w wd) => ((hB'.out.below hd hB'.out.lt).rdT hT.out).cell _ rfl k hkt)
      have ht16 : (ts.getD k zT).2.1.length = 16 := by rw [List.getD_eq_getElem?_getD, List.getElem?_eq_getElem hkt]; exact hT.out _ (List.getElem_mem hkt)
      generalize ts.getD k zT = t at *
      have hq := Lib.hid (fun w => eqT_same t ht16 w)
      have h18 := Lib.hid (tcl_len ht16)
      have hBw := Below.drew hB
      clear hkt ht16 hB
      go_wp2_with fail
      refine wp_region_still_tail 8 (by kernel_rfl) (by kernel_rfl) ?_
      change wpStill _ _ wr.drew (fun a' => wpList _ _ _ _ a' wr.drew) _ _
      generalize wr.drew = wd at *
      have qA := rA.out wd hBw
      have qB := rB.out wd hBw
      have hkn : (k : Int) < n := by omega
      rw [Addr.add_mid, Nat.zero_add] at qA qB
      simp only [List.take_succ_cons, List.take_zero, List.drop_succ_cons, List.drop_zero]
      still_step
      still_step
      still_step
      refine wpStill_step (fun K' hK' => ?_)
      rw [if_pos (by rfl)]
      refine still_load_at 56 (.tmp 19) rfl ⟨a, k * 18, none⟩ (by first | rfl | simp) (tcl t) _ qA Try.underlying56 rfl (by rw [h18.out]; kernel_rfl) ?_
      refine hK' _ ?_
      clear hK' K'
      still_step
      still_step
      still_step
      refine wpStill_step (fun K' hK' => ?_)
      rw [if_pos (by rfl)]
      refine still_load_at 56 (.tmp 23) rfl ⟨b, k * 18, none⟩ (by first | rfl | simp) (tcl t) _ qB Try.underlying56 rfl (by rw [h18.out]; kernel_rfl) ?_
      refine hK' _ ?_
      clear hK' K'
      refine wpStill_nil ?_
      go_wp2_with (first
        | ((go_at_call 82; ((with_reducible refine (hq.out _).mono ?_); rintro e w2 ⟨rfl, hB2⟩)); have b2 := hBw.trans (hB2.mono hBw.size)))
      go_roundw
      case rel => exact ⟨k + 1, by omega, by go_num, b2⟩
      case measure => simp [intOf]; omega
    · have hk2 : k = n := by omega
      subst hk2
      go_wp2
      go_ret
      exact ⟨rfl, hB⟩
set_option maxRecDepth 100000 in
set_option maxHeartbeats 1000000 in
theorem eqE_same (p c n : Int) (a b : Nat) (cap cap' : Nat) (ts : List Tm) (hts : ∀ t ∈ ts, t.2.1.length = 16) (hx : ts.length ≤ 1048576) (w : World) (hA : Own w a (tsl ts).toArray 56) (hB : Own w b (tsl ts).toArray 56) :
    Calls Try.prog 13 #[.agg (ecl p c n (.slice (some ⟨a, 0, none⟩) ts.length cap)), .agg (ecl p c n (.slice (some ⟨b, 0, none⟩) ts.length cap'))] w fun e w' => e = .returned (.bool true) ∧ Below w.heap.size w w' := by
  have hq := Lib.hid (fun (A B : Obj) => eqTS_same a b cap cap' ts hts hx ((w.alloc A).alloc B) ((hA.alloc _).alloc _) ((hB.alloc _).alloc _))
  have h2 := Lib.hid (fun (A B : Obj) => show Below w.heap.size w ((w.alloc A).alloc B) from ((Below.refl _ w).alloc (Nat.le_refl _) A).alloc (by simp) B)
  obtain ⟨m, hm⟩ : ∃ m, ts.length = m := ⟨_, rfl⟩
  rw [hm] at hq hx ⊢
  unfold ecl
  clear hA hB hts hm
  go_enter Try.func13, Try.ntmps13
  go_wp2_with (first
    | (go_at_call 41; ((with_reducible refine (hq.out _ _).mono ?_); rintro e w1 ⟨rfl, hB1⟩)))
  go_ret
  exact ⟨rfl, (h2.out _ _).trans (hB1.mono (h2.out _ _).size)⟩
end Go.Proofs.Ytbibmncepjmgcaa
namespace Go.Proofs.Ytbibmncepjmgcaa
open Go.RowKit
set_option linter.unusedVariables false
/-- No number from 2 up to, and without, m divides p. -/
def NoDiv (p : Int) (m : Nat) : Prop := ∀ j : Nat, j < m → 2 ≤ j → p.tmod j ≠ 0
instance (p : Int) (m : Nat) : Decidable (NoDiv p m) := by unfold NoDiv; exact inferInstance
def primeB (p : Int) : Bool := decide (2 ≤ p ∧ p ≤ 97 ∧ NoDiv p p.toNat)
theorem NoDiv.next {p : Int} {m : Nat} (h : NoDiv p m) (hm : p.tmod m ≠ 0) : NoDiv p (m + 1) := by
  intro j hj h2
  by_cases e : j = m
  · subst e; exact hm
  · exact h j (by omega) h2
theorem NoDiv.root {p : Int} {m : Nat} (h : NoDiv p m) (h2 : 2 ≤ m) (hp : 2 ≤ p) (hm : p < (m : Int) * m) : NoDiv p p.toNat := by
  intro j jp j2 hj
  obtain ⟨P, rfl⟩ : ∃ P : Nat, p = P := ⟨p.toNat, by omega⟩
  have hd : P % j = 0 := by
    have : ((P % j : Nat) : Int) = 0 := by rw [← hj]; exact Int.ofNat_tmod P j
    omega
  obtain ⟨q, rfl⟩ := Nat.dvd_of_mod_eq_zero hd
  by_cases hjm : j < m
  · exact h j hjm j2 hj
  · have hmm : j * q < m * m := by exact_mod_cast hm
    have q2 : 2 ≤ q := by
      refine Decidable.byContradiction fun hn => ?_
      have : q = 0 ∨ q = 1 := by omega
      rcases this with rfl | rfl
      · simp at hp
      · simp at jp
    have qm : q < m := by
      refine Decidable.byContradiction fun hn => ?_
      have : m * m ≤ j * q := Nat.mul_le_mul (by omega) (by omega)
      omega
    refine h q qm q2 ?_
    have : (j * q) % q = 0 := Nat.mul_mod_left j q
    rw [show (((j * q : Nat) : Int)).tmod (q : Int) = (((j * q) % q : Nat) : Int) from (Int.ofNat_tmod (j * q) q).symm, this]; rfl
set_option maxRecDepth 100000 in
set_option maxHeartbeats 1000000 in
theorem primeI_any (p : Int) (w : World) : Calls Try.prog 86 #[.int .i64 p] w fun e w' => e = .returned (.bool (primeB p)) ∧ w' = w := by
  by_cases h2 : p < 2
  · have e : primeB p = false := by unfold primeB; simp; omega
    rw [e]; clear e
    go_enter Try.func86, Try.ntmps86
    go_wp2
    go_ret
    exact ⟨rfl, rfl⟩
  · by_cases h97 : 97 < p
    · have e : primeB p = false := by unfold primeB; simp; omega
      rw [e]; clear e
      go_enter Try.func86, Try.ntmps86
      go_wp2
      go_ret
      exact ⟨rfl, rfl⟩
    · obtain ⟨b, hb⟩ : ∃ b, primeB p = b := ⟨_, rfl⟩
      rw [hb]
      have hb' := Lib.hid hb
      clear hb
      go_enter Try.func86, Try.ntmps86
      go_wp2
      go_loopw [3] (fun i wr => ∃ k : Nat, 2 ≤ k ∧ k ≤ 98 ∧ i = .int .i64 k ∧ Hid (NoDiv p k) ∧ wr = w) (fun i _ => (98 - intOf i).toNat)
      case atStart => exact ⟨2, by omega, by omega, rfl, Lib.hid (fun j a b => by omega), rfl⟩
      case round =>
        obtain ⟨k, hk2, hk98, rfl, hD, rfl⟩ := hrel
        have hkk : (k : Int) * k ≤ 9604 := by
          have : k * k ≤ 98 * 98 := Nat.mul_le_mul hk98 hk98
          omega
        have hkk0 : (0 : Int) ≤ (k : Int) * k := by exact_mod_cast Nat.zero_le _
        by_cases hlt : (k : Int) * k ≤ p
        · have kp : k < p.toNat := by
            have : (k : Int) * 2 ≤ (k : Int) * k := Int.mul_le_mul_of_nonneg_left (by omega) (by omega)
            omega
          by_cases hd : p.tmod k = 0
          · have e : b = false := by
              rw [← hb'.out]; unfold primeB
              rw [decide_eq_false_iff_not]
              exact fun h => h.2.2 k kp hk2 hd
            subst e
            go_wp2
            go_ret
            exact ⟨rfl, rfl⟩
          · have hD2 := Lib.hid (hD.out.next hd)
            have hd2 : (p % (k : Int) == 0) = false := by rw [beq_eq_false_iff_ne, ← Int.tmod_eq_emod_of_nonneg (by omega)]; exact hd
            have kp2 : (k : Int) < p := by omega
            clear hd kp
            go_wp2
            go_roundw
            case rel => exact ⟨k + 1, by omega, by omega, by go_num, hD2, trivial⟩
            case measure => simp [intOf]; omega
        · have e : b = true := by
            rw [← hb'.out]; unfold primeB
            rw [decide_eq_true_iff]
            exact ⟨by omega, by omega, hD.out.root hk2 (by omega) (by omega)⟩
          subst e
          go_wp2
          go_ret
          exact ⟨rfl, rfl⟩
set_option maxRecDepth 100000 in
set_option maxHeartbeats 1000000 in
theorem primeS_any (p : Int) (w : World) (hp : -9223372036854775808 ≤ p ∧ p ≤ 9223372036854775807) : Calls Try.prog 65 #[.int .i64 p] w fun e w' => e = .returned (.bool (primeB p)) ∧ w' = w := by
  obtain ⟨b, hb⟩ : ∃ b, primeB p = b := ⟨_, rfl⟩
  rw [hb]
  have hb' := Lib.hid hb
  clear hb
  obtain ⟨hp1, hp2⟩ := hp
  go_enter Try.func65, Try.ntmps65
  go_wp2
  go_loopw [3] (fun i wr => ∃ k : Nat, 2 ≤ k ∧ k ≤ 100 ∧ i = .int .i64 k ∧ Hid (NoDiv p k) ∧ wr = w) (fun i _ => (100 - intOf i).toNat)
  case atStart => exact ⟨2, by omega, by omega, rfl, Lib.hid (fun j a b => by omega), rfl⟩
  case round =>
    obtain ⟨k, hk2, hk98, rfl, hD, rfl⟩ := hrel
    by_cases hlt : (k : Int) < p
    · by_cases h100 : (k : Int) < 100
      · have h0 : ¬ ((k : Int) = 0) := by omega
        by_cases hd : p.tmod k = 0
        · have e : b = false := by
            rw [← hb'.out]; unfold primeB
            rw [decide_eq_false_iff_not]
            exact fun h => h.2.2 k (by omega) hk2 hd
          subst e
          go_wp2
          go_ret
          exact ⟨rfl, rfl⟩
        · have hD2 := Lib.hid (hD.out.next hd)
          have hd2 : (p % (k : Int) == 0) = false := by rw [beq_eq_false_iff_ne, ← Int.tmod_eq_emod_of_nonneg (by omega)]; exact hd
          clear hd
          go_wp2
          go_roundw
          case rel => exact ⟨k + 1, by omega, by omega, by go_num, hD2, trivial⟩
          case measure => simp [intOf]; omega
      · have e : b = false := by
          rw [← hb'.out]; unfold primeB
          rw [decide_eq_false_iff_not]
          exact fun h => by omega
        subst e
        go_wp2_with (first
          | (go_at_call 54; ((with_reducible refine (inS_f p 2 97 _ (by omega)).mono ?_); rintro e w0 ⟨rfl, hw⟩)))
        go_ret
        exact ⟨rfl, hw.symm⟩
    · by_cases h97 : 2 ≤ p ∧ p ≤ 97
      · have e : b = true := by
          rw [← hb'.out]; unfold primeB
          rw [decide_eq_true_iff]
          exact ⟨h97.1, h97.2, fun j hj h2 => hD.out j (by omega) h2⟩
        subst e
        obtain ⟨q1, q2⟩ := h97
        go_wp2_with (first
          | (go_at_call 54; ((with_reducible refine (inS_t p 2 97 _ q1 q2).mono ?_); rintro e w0 ⟨rfl, hw⟩)))
        go_ret
        exact ⟨rfl, hw.symm⟩
      · have e : b = false := by
          rw [← hb'.out]; unfold primeB
          rw [decide_eq_false_iff_not]
          exact fun h => by omega
        subst e
        go_wp2_with (first
          | (go_at_call 54; ((with_reducible refine (inS_f p 2 97 _ (by omega)).mono ?_); rintro e w0 ⟨rfl, hw⟩)))
        go_ret
        exact ⟨rfl, hw.symm⟩
set_option maxRecDepth 100000 in
theorem modI_any (p c : Int) (w : World) : Calls Try.prog 73 #[.int .i64 p, .int .i64 c] w fun e w' => e = .returned (.bool (primeB p && decide (0 ≤ c ∧ c < p))) ∧ w' = w := by
  have hq := Lib.hid (fun w => primeI_any p w)
  obtain ⟨b, hb⟩ : ∃ b, primeB p = b := ⟨_, rfl⟩
  rw [hb] at hq ⊢
  clear hb
  cases b with
  | false =>
    rw [Bool.false_and]
    go_enter Try.func73, Try.ntmps73
    go_wp2_with (first
      | (go_at_call 86; ((with_reducible refine (hq.out _).mono ?_); rintro e w1 ⟨rfl, hw⟩)))
    go_ret
    exact ⟨rfl, rfl⟩
  | true =>
    rw [Bool.true_and]
    by_cases h : 0 ≤ c
    · by_cases h2 : c < p
      · rw [show decide (0 ≤ c ∧ c < p) = true by simp [h, h2]]
        go_enter Try.func73, Try.ntmps73
        go_wp2_with (first
          | (go_at_call 86; ((with_reducible refine (hq.out _).mono ?_); rintro e w1 ⟨rfl, hw⟩)))
        go_ret
        exact ⟨by simp, rfl⟩
      · rw [show decide (0 ≤ c ∧ c < p) = false by simp; omega]
        go_enter Try.func73, Try.ntmps73
        go_wp2_with (first
          | (go_at_call 86; ((with_reducible refine (hq.out _).mono ?_); rintro e w1 ⟨rfl, hw⟩)))
        go_ret
        exact ⟨by simp <;> omega, rfl⟩
    · rw [show decide (0 ≤ c ∧ c < p) = false by simp; omega]
      go_enter Try.func73, Try.ntmps73
      go_wp2_with (first
        | (go_at_call 86; ((with_reducible refine (hq.out _).mono ?_); rintro e w1 ⟨rfl, hw⟩)))
      go_ret
      exact ⟨by simp <;> omega, rfl⟩
end Go.Proofs.Ytbibmncepjmgcaa
namespace Go.Proofs.Ytbibmncepjmgcaa
section
variable {P : Program} {ops : Array Oper} {Q : Exit → Act → World → Prop}
/-- Where an operation lets go on, K; nothing else happens. -/
abbrev only (K : Act → World → Prop) : Exit → Act → World → Prop := Exit.then K fun _ _ _ => False
theorem wp_of_only {o : Oper} {a : Act} {w : World} {K K' : Act → World → Prop} (h : ∀ a w, K a w → K' a w) (hh : o.wp P a w K (only K)) : o.wp P a w K' Q := by
  unfold Oper.wp at *
  generalize (execOp a.eval o).run P w = r at *
  cases r with
  | ok n w' =>
    cases n <;> simp only [Oper.upon] at hh ⊢ <;>
      first
        | exact h _ _ hh
        | exact Calls.mono hh (fun e w'' he => by
            cases e <;> first | exact h _ _ he | exact (show False from he).elim | exact (show False by obtain ⟨_, _, x⟩ := he; exact x).elim)
        | exact Rows.mono hh (fun _ _ he => h _ _ he)
  | halt x w' => cases x <;> simp only [Oper.upon] at hh ⊢ <;> first | exact (show False from hh).elim | exact hh
theorem wpOp_of_list {i : Nat} {o : Oper} {a : Act} {w : World} {K K' : Act → World → Prop} (ho : ops[i]? = some o) (h : ∀ a w, K a w → K' a w) (hh : wpList P ops (only K) [o] a w) : wpOp P ops Q i K' a w := by
  unfold wpOp
  rw [ho]
  show if Region.wanted o (yielded ops a.tmps) = true then _ else _
  simp only [wpList] at hh
  split
  · rename_i hw
    rw [if_pos hw] at hh
    rcases hh with hh | ⟨_, _, _, x⟩
    · exact .inl (wp_of_only h hh)
    · exact (show False from x).elim
  · rename_i hw
    rw [if_neg hw] at hh
    exact h _ _ hh
/-- The operation waits for operation j. -/
def needs (o : Oper) (j : Nat) : Bool := o.after.any fun e => Region.binds .any e && e.on == j
/-- A property of each operation of a list, counted from k. -/
def AllOps (p : Nat → Oper → Prop) : Nat → List Oper → Prop
  | _, [] => True
  | k, o :: l => p k o ∧ AllOps p (k + 1) l
theorem AllOps.get {p : Nat → Oper → Prop} : ∀ (l : List Oper) (k i : Nat) (o : Oper), AllOps p k l → l[i]? = some o → p (k + i) o
  | [], _, _, _, _, h => by simp at h
  | x :: l, k, 0, o, h, e => by simp at e; subst e; exact h.1
  | x :: l, k, i + 1, o, h, e => by have := AllOps.get l (k + 1) i o h.2 (by simpa using e); rwa [Nat.add_assoc, Nat.add_comm 1 i] at this
theorem count_set {listed : Array Bool} {i : Nat} (hi : i < listed.size) (h : listed.getD i true = false) : (listed.setIfInBounds i true).toList.count false + 1 = listed.toList.count false := by
  obtain ⟨l⟩ := listed
  simp at hi h ⊢
  induction l generalizing i with
  | nil => simp at hi
  | cons b l ih =>
    cases i with
    | zero => simp at h; subst h; simp
    | succ i =>
      have := ih (i := i) (by simpa using hi) (by simpa using h)
      simp [List.count_cons]
      omega
/-- Operation j waits for operation i. -/
def waits (ops : Array Oper) (j i : Nat) : Bool := match ops[j]? with | some o => needs o i | none => false
theorem wpAny_facts (G : Act → World → Prop) (F : Nat → Act → World → Prop)
    (hs : ∀ i o, ops[i]? = some o → ∀ a w, G a w → (∀ j, needs o j = true → F j a w) → wpList P ops (only fun a' w' => G a' w' ∧ F i a' w' ∧ ∀ j, j ≠ i → waits ops j i = false → F j a w → F j a' w') [o] a w)
    (he : ∀ a w, G a w → (∀ i, i < ops.size → F i a w) → Q .normal a w) (hacyc : ∀ listed : Array Bool, listed.size = ops.size → Region.ready .any ops listed = [] → ∀ i, i < ops.size → listed.getD i false = true) :
    ∀ (fuel : Nat) (listed : Array Bool) (a : Act) (w : World), listed.size = ops.size → listed.toList.count false ≤ fuel → G a w → (∀ i, listed.getD i false = true → F i a w) →
      (∀ i j, listed.getD j false = true → waits ops j i = true → listed.getD i false = true) → wpAny P .any ops Q fuel listed a w := by
  intro fuel
  induction fuel with
  | zero =>
    intro listed a w hsz hc hG hF _
    have hr : Region.ready .any ops listed = [] := by
      cases hr : Region.ready .any ops listed with
      | nil => rfl
      | cons i l =>
        obtain ⟨h0, o, ho, _⟩ := mem_ready.1 (show i ∈ Region.ready .any ops listed by rw [hr]; simp)
        have hlt : i < ops.size := (Array.getElem?_eq_some_iff.1 ho).1
        have := count_set (by omega) h0
        omega
    exact ⟨hr, he _ _ hG fun i hi => hF i (hacyc listed hsz hr i hi)⟩
  | succ fuel ih =>
    intro listed a w hsz hc hG hF hcl
    refine ⟨fun hr => he _ _ hG fun i hi => hF i (hacyc listed hsz hr i hi), fun i hi => ?_⟩
    obtain ⟨h0, o, ho, hall⟩ := mem_ready.1 hi
    have hlt : i < ops.size := (Array.getElem?_eq_some_iff.1 ho).1
    have hcs := count_set (by omega) h0
    have hn0 : ∀ j, needs o j = true → listed.getD j false = true := by
      intro j hj
      unfold needs at hj
      obtain ⟨e, he', hb⟩ := Array.any_eq_true'.1 hj
      simp only [Bool.and_eq_true, beq_iff_eq] at hb
      have := hall e he' hb.1
      rwa [hb.2] at this
    refine wpOp_of_list ho ?_ (hs i o ho a w hG fun j hj => hF j (hn0 j hj))
    rintro a' w' ⟨hG', hFi, hFj⟩
    refine ih _ a' w' (by simp [hsz]) (by omega) hG' (fun j hj => ?_) fun k j hj hk => ?_
    · by_cases e : j = i
      · subst e; exact hFi
      · rw [getD_set_ne false (Ne.symm e)] at hj
        refine hFj j e ?_ (hF j hj)
        cases hw : waits ops j i with
        | false => rfl
        | true =>
          have := hcl i j hj hw
          have h1 : i < listed.size := by omega
          simp [h1] at h0 this
          rw [h0] at this
          cases this
    · by_cases e : j = i
      · subst e
        refine getD_set_true (hn0 k ?_)
        unfold waits at hk
        rwa [ho] at hk
      · rw [getD_set_ne false (Ne.symm e)] at hj
        exact getD_set_true (hcl k j hj hk)
/-- Each operation waits only for operations ahead of it. -/
def aheadB (l : List Oper) : Nat → Bool
  | k => match l with
    | [] => true
    | o :: l => o.after.all (fun e => !Region.binds .any e || decide (e.on < k)) && aheadB l (k + 1)
theorem ahead_get : ∀ (l : List Oper) (k i : Nat) (o : Oper), aheadB l k = true → l[i]? = some o → ∀ e ∈ o.after, Region.binds .any e = true → e.on < k + i
  | [], _, _, _, _, h => by simp at h
  | x :: l, k, 0, o, h, e => by
    simp at e; subst e
    simp only [aheadB, Bool.and_eq_true] at h
    intro e he hb
    have := Array.all_eq_true_iff_forall_mem.1 h.1 e he
    simpa [hb] using this
  | x :: l, k, i + 1, o, h, e => by
    simp only [aheadB, Bool.and_eq_true] at h
    have := ahead_get l (k + 1) i o h.2 (by simpa using e)
    intro e he hb; have := this e he hb; omega
theorem acyc {l : List Oper} (h : aheadB l 0 = true) (listed : Array Bool) (hsz : listed.size = l.toArray.size) (hr : Region.ready .any l.toArray listed = []) : ∀ i, i < l.toArray.size → listed.getD i false = true := by
  intro i
  induction i using Nat.strongRecOn with
  | _ i ih =>
    intro hi
    cases hb : listed.getD i false with
    | true => rfl
    | false =>
      exfalso
      have ho : l.toArray[i]? = some l.toArray[i] := Array.getElem?_eq_getElem hi
      have ho' : l[i]? = some l.toArray[i] := by rw [← ho]; simp
      have : i ∈ Region.ready .any l.toArray listed := by
        refine mem_ready.2 ⟨?_, _, ho, fun e he hbe => ?_⟩
        · have : i < listed.size := by omega
          simp [this] at hb ⊢; exact hb
        · have := ahead_get l 0 i _ h ho' e he hbe
          exact ih e.on (by omega) (by omega)
      rw [hr] at this
      cases this
theorem wp_region_facts {id : Nat} {a : Act} {w : World} {l : List Oper} (hm : P.follows .mixedOrders = true) (hah : aheadB l 0 = true) (G : Act → World → Prop) (F : Nat → Act → World → Prop)
    (h0 : G a { w with drawn := w.drawn + 1 })
    (hs : AllOps (fun i o => ∀ a w, G a w → (∀ j, needs o j = true → F j a w) → ∀ K : Act → World → Prop, (∀ a' w', G a' w' → F i a' w' → (∀ j, j ≠ i → waits l.toArray j i = false → F j a w → F j a' w') → K a' w') → wpList P l.toArray (only K) [o] a w) 0 l)
    (he : ∀ a w, G a w → (∀ i, i < l.length → F i a w) → Q .normal a w) : (Code.region id l.toArray true).wp P Q a w := by
  refine wp_region_any hm (wpAny_facts G F (fun i o ho => ?_) (fun a w hG hF => he a w hG fun i hi => hF i (by simpa using hi)) (acyc hah) _ _ _ _ (by simp) ?_ h0 (fun i hi => ?_) fun i j hj _ => ?_)
  · have := AllOps.get l 0 i o hs (by simpa using ho)
    rw [Nat.zero_add] at this
    exact fun a w hG hd => this a w hG hd _ fun a' w' h1 h2 h3 => ⟨h1, h2, h3⟩
  · simp
  · rw [Array.getD_eq_getD_getElem?, Array.getElem?_replicate] at hi
    split at hi <;> simp at hi
  · rw [Array.getD_eq_getD_getElem?, Array.getElem?_replicate] at hj
    split at hj <;> simp at hj
theorem AllOps.cons {p : Nat → Oper → Prop} {k : Nat} {o : Oper} {l : List Oper} (h : p k o) (h' : AllOps p (k + 1) l) : AllOps p k (o :: l) := ⟨h, h'⟩
theorem AllOps.nil {p : Nat → Oper → Prop} {k : Nat} : AllOps p k [] := trivial
theorem waits_no {p : Prop} {i j : Nat} (h : waits ops j i = false) (h' : waits ops j i = true) : p := by rw [h] at h'; cases h'
/-- What a slot holds. -/
def sl (a : Act) (i : Nat) : Value := a.tmps.toList.getD i undef
end
end Go.Proofs.Ytbibmncepjmgcaa
namespace Go.Proofs.Ytbibmncepjmgcaa
open Go.RowKit
set_option linter.unusedVariables false
theorem run81 (a b : ByteArray) (w : World) : (callFunc 123 #[.string a, .string b]).run Try.prog w = .ok (Next.value (.int .i64 (Extern.BytealgCompare.cmp a b))) w := by
  kernel_rfl
set_option maxRecDepth 100000 in
theorem cmp74 (a b : ByteArray) (w : World) : Calls Try.prog 119 #[.string a, .string b] w fun e w' => e = .returned (.int .i64 (Extern.BytealgCompare.cmp a b)) ∧ w' = w := by
  have h := run81 a b w
  go_enter Try.func119, Try.ntmps119
  go_wp2
  go_ret
  exact ⟨rfl, rfl⟩
set_option maxRecDepth 100000 in
theorem cmp57 (a b : ByteArray) (w : World) : Calls Try.prog 109 #[.string a, .string b] w fun e w' => e = .returned (.int .i64 (Extern.BytealgCompare.cmp a b)) ∧ w' = w := by
  have h := Lib.hid (fun w => cmp74 a b w)
  go_enter Try.func109, Try.ntmps109
  go_wp2_with (first
    | (go_at_call 119; ((with_reducible refine (h.out _).mono ?_); rintro e w1 ⟨rfl, hw⟩)))
  go_ret
  exact ⟨rfl, rfl⟩
set_option maxRecDepth 100000 in
set_option maxHeartbeats 2000000 in
theorem cmpD_any (n1 n2 : Int) (ms es : List Int) (hms : ms.length = 16) (hes : es.length = 16) (hb1 : Bytes ms) (hb2 : Bytes es) (h11 : 1 ≤ n1) (h18 : n1 ≤ 8) (h21 : 1 ≤ n2) (h28 : n2 ≤ 8) (w : World) :
    Calls Try.prog 76 #[.agg (dcells n1 ms), .agg (dcells n2 es)] w fun e w' => e = .returned (.int .i64 (Extern.BytealgCompare.cmp (textS n1 ms) (textS n2 es))) ∧ Below w.heap.size w w' := by
  have hl := Lib.hid hms
  have hl2 := Lib.hid hes
  have hT1 := Lib.hid (fun w => textI_any n1 ms hms hb1 w h11 h18)
  have hT2 := Lib.hid (fun w => textI_any n2 es hes hb2 w h21 h28)
  have hC := Lib.hid (fun w => cmp57 (textS n1 ms) (textS n2 es) w)
  generalize textS n1 ms = s1 at *
  generalize textS n2 es = s2 at *
  generalize Extern.BytealgCompare.cmp s1 s2 = r at *
  clear hms hes hb1 hb2 h11 h18 h21 h28
  go_enter Try.func76, Try.ntmps76
  go_wp2_with fail
  have hA1 : Own (((w.alloc (.cells (dcells n1 ms) 53)).alloc (.cells (dcells n2 es) 53)).drew) w.heap.size (dcells n1 ms) 53 := (Own.new _ _ _).alloc _
  have hA2 : Own (((w.alloc (.cells (dcells n1 ms) 53)).alloc (.cells (dcells n2 es) 53)).drew) (w.heap.size + 1) (dcells n2 es) 53 := Own.at _ _ _ (by simp)
  have b1 : Below w.heap.size w (((w.alloc (.cells (dcells n1 ms) 53)).alloc (.cells (dcells n2 es) 53)).drew) := (((Below.refl _ _).alloc (Nat.le_refl _) _).alloc (by simp) _).drew
  obtain ⟨wd, hwd⟩ : ∃ wd, (((w.alloc (.cells (dcells n1 ms) 53)).alloc (.cells (dcells n2 es) 53)).drew) = wd := ⟨_, rfl⟩
  rw [hwd] at hA1 hA2 b1
  have hlt1 := hA1.lt
  have hlt2 := hA2.lt
  refine wp_region_facts (by kernel_rfl) (by kernel_rfl) (fun a w' => ∃ x4 x5 x6 x7 x8 x9 : Value, a = ⟨List.toArray [.agg (dcells n1 ms), .agg (dcells n2 es), .pointer (some ⟨w.heap.size, 0, none⟩), .pointer (some ⟨w.heap.size + 1, 0, none⟩), x4, x5, x6, x7, x8, x9], []⟩ ∧ Below wd.heap.size wd w') (fun j a w' => match j with | 0 => sl a 5 = .agg (dcells n1 ms) | 1 => sl a 6 = .string s1 | 2 => sl a 7 = .agg (dcells n2 es) | 3 => sl a 8 = .string s2 | 4 => sl a 9 = .int .i64 r | 5 => sl a 4 = .int .i64 r | _ => True) ⟨_, _, _, _, _, _, rfl, by rw [← hwd]; exact Below.refl _ _⟩ ?_ ?_
  · refine (AllOps.cons ?_ (AllOps.cons ?_ (AllOps.cons ?_ (AllOps.cons ?_ (AllOps.cons ?_ (AllOps.cons ?_ AllOps.nil))))))
    · rintro a w0 ⟨x4, x5, x6, x7, x8, x9, rfl, hB⟩ hd K hK
      go_wp2_with (first | (refine wpList_load_row rfl 53 _ rfl _ rfl 53 _ (0, 0) _ (hA1.below hB hlt1) Try.underlying53 rfl (row26 (d17 _ _ (hl.out))) ?_))
      refine hK _ _ ⟨_, _, _, _, _, _, rfl, hB⟩ (rfl) ?_
      rintro (_|_|_|_|_|_|_) hj hn h <;> first | exact h | exact absurd rfl hj | exact waits_no hn (by kernel_rfl)
    · rintro a w0 ⟨x4, x5, x6, x7, x8, x9, rfl, hB⟩ hd K hK
      have d0 : x5 = _ := hd 0 (by kernel_rfl)
      subst d0
      go_wp2_with (first | (go_at_call 108; ((with_reducible refine (hT1.out _).mono ?_); rintro e w2 ⟨rfl, hB2⟩)))
      refine hK _ _ ⟨_, _, _, _, _, _, rfl, hB.trans (hB2.mono hB.size)⟩ (rfl) ?_
      rintro (_|_|_|_|_|_|_) hj hn h <;> first | exact h | exact absurd rfl hj | exact waits_no hn (by kernel_rfl)
    · rintro a w0 ⟨x4, x5, x6, x7, x8, x9, rfl, hB⟩ hd K hK
      go_wp2_with (first | (refine wpList_load_row rfl 53 _ rfl _ rfl 53 _ (0, 0) _ (hA2.below hB hlt2) Try.underlying53 rfl (row26 (d17 _ _ (hl2.out))) ?_))
      refine hK _ _ ⟨_, _, _, _, _, _, rfl, hB⟩ (rfl) ?_
      rintro (_|_|_|_|_|_|_) hj hn h <;> first | exact h | exact absurd rfl hj | exact waits_no hn (by kernel_rfl)
    · rintro a w0 ⟨x4, x5, x6, x7, x8, x9, rfl, hB⟩ hd K hK
      have d0 : x7 = _ := hd 2 (by kernel_rfl)
      subst d0
      go_wp2_with (first | (go_at_call 108; ((with_reducible refine (hT2.out _).mono ?_); rintro e w2 ⟨rfl, hB2⟩)))
      refine hK _ _ ⟨_, _, _, _, _, _, rfl, hB.trans (hB2.mono hB.size)⟩ (rfl) ?_
      rintro (_|_|_|_|_|_|_) hj hn h <;> first | exact h | exact absurd rfl hj | exact waits_no hn (by kernel_rfl)
    · rintro a w0 ⟨x4, x5, x6, x7, x8, x9, rfl, hB⟩ hd K hK
      have d0 : x6 = _ := hd 1 (by kernel_rfl)
      have d1 : x8 = _ := hd 3 (by kernel_rfl)
      subst d0 d1
      go_wp2_with (first | (go_at_call 109; ((with_reducible refine (hC.out _).mono ?_); rintro e w2 ⟨rfl, hw2⟩)))
      subst hw2
      refine hK _ _ ⟨_, _, _, _, _, _, rfl, hB⟩ (rfl) ?_
      rintro (_|_|_|_|_|_|_) hj hn h <;> first | exact h | exact absurd rfl hj | exact waits_no hn (by kernel_rfl)
    · rintro a w0 ⟨x4, x5, x6, x7, x8, x9, rfl, hB⟩ hd K hK
      have d0 : x9 = _ := hd 4 (by kernel_rfl)
      subst d0
      go_wp2
      refine hK _ _ ⟨_, _, _, _, _, _, rfl, hB⟩ (rfl) ?_
      rintro (_|_|_|_|_|_|_) hj hn h <;> first | exact h | exact absurd rfl hj | exact waits_no hn (by kernel_rfl)
  · rintro a w0 ⟨x4, x5, x6, x7, x8, x9, rfl, hB⟩ hd
    have d0 : x4 = _ := hd 5 (by decide)
    subst d0
    go_wp2
    go_ret
    exact ⟨rfl, b1.trans (hB.mono b1.size)⟩
end Go.Proofs.Ytbibmncepjmgcaa
namespace Go.Proofs.Ytbibmncepjmgcaa
open Go.RowKit

/-- Block g, of a number at least base, holds the numbers xs, and has room for cap. -/
def Bys (w : World) (base g cap : Nat) (xs : List Int) : Prop :=
  base ≤ g ∧ xs.length ≤ cap ∧ cap ≤ maxLen ∧ ∃ cur : Array Value, Own w g cur 5 ∧ cur.size = cap ∧ cur.toList.take xs.length = xs.map (Value.int .u8)
/-- The value of such a slice. -/
def bval (g cap : Nat) (xs : List Int) : Value := .slice (some ⟨g, 0, none⟩) xs.length cap

theorem Bys.lt {w : World} {base g cap : Nat} {xs : List Int} (h : Bys w base g cap xs) : g < w.heap.size := by
  obtain ⟨_, _, _, cur, ho, _⟩ := h; exact ho.lt
theorem Bys.cell {w : World} {base g cap : Nat} {xs : List Int} (h : Bys w base g cap xs) (j : Nat) (hj : j < xs.length) : w.cell? ⟨g, j, none⟩ = some (.int .u8 (xs.getD j 0)) := by
  obtain ⟨_, h2, _, cur, ho, hs, ht⟩ := h
  rw [ho.cell]
  have e : (cur.toList.take xs.length)[j]? = (xs.map (Value.int .u8))[j]? := by rw [ht]
  rw [List.getElem?_take_of_lt hj] at e
  simpa [hj] using e
theorem Bys.below {w w' : World} {base g cap B : Nat} {xs : List Int} (h : Bys w base g cap xs) (hb : Below B w w') (hB : g < B) : Bys w' base g cap xs := by
  obtain ⟨h1, h2, h3, cur, ho, hs, ht⟩ := h
  exact ⟨h1, h2, h3, cur, ho.below hb hB, hs, ht⟩
theorem Bys.only {w w' : World} {base g cap b : Nat} {xs : List Int} (h : Bys w base g cap xs) (hb : Only b w w') (hB : g ≠ b) : Bys w' base g cap xs := by
  obtain ⟨h1, h2, h3, cur, ho, hs, ht⟩ := h
  exact ⟨h1, h2, h3, cur, ho.only hb hB, hs, ht⟩
theorem Bys.alloc {w : World} {base g cap : Nat} {xs : List Int} (h : Bys w base g cap xs) (o : Obj) : Bys (w.alloc o) base g cap xs := by
  obtain ⟨h1, h2, h3, cur, ho, hs, ht⟩ := h
  exact ⟨h1, h2, h3, cur, ho.alloc o, hs, ht⟩
theorem Bys.drewN {w : World} {base g cap : Nat} {xs : List Int} (h : Bys w base g cap xs) (n : Nat) : Bys (w.drewN n) base g cap xs := h
theorem Bys.pop {w : World} {base g cap : Nat} {xs : List Int} {x : Int} (h : Bys w base g cap (xs ++ [x])) : Bys w base g cap xs := by
  obtain ⟨h1, h2, h3, cur, ho, hs, ht⟩ := h
  simp only [List.length_append, List.length_cons, List.length_nil] at h2
  refine ⟨h1, by omega, h3, cur, ho, hs, ?_⟩
  have e : (cur.toList.take (xs ++ [x]).length).take xs.length = ((xs ++ [x]).map (Value.int .u8)).take xs.length := by rw [ht]
  rw [List.take_take, Nat.min_eq_left (by simp)] at e
  rw [e, List.map_append, List.take_append_of_le_length (by simp)]
  rw [List.take_of_length_le (by simp)]
theorem Bys.owns {w : World} {base g cap : Nat} {xs : List Int} (h : Bys w base g cap xs) : w.ownsRow base 5 1 (bval g cap xs) xs.length (xs.map (Value.int .u8)) := by
  obtain ⟨h1, h2, h3, cur, ho, hs, ht⟩ := h
  exact ⟨by simp, .inr ⟨g, cap, cur, rfl, h1, ho, h2, h3, by simpa using hs, by simpa using ht⟩⟩
theorem Bys.of_owns {w : World} {base : Nat} {v : Value} {xs : List Int} (h : w.ownsRow base 5 1 v xs.length (xs.map (Value.int .u8))) (hv : v ≠ .slice none 0 0) : ∃ g cap, v = bval g cap xs ∧ Bys w base g cap xs := by
  obtain ⟨_, ⟨h0, _⟩ | ⟨g, cap, cur, hv', hg, hh, hn, hcap, hsz, htake⟩⟩ := h
  · exact absurd h0 hv
  · exact ⟨g, cap, hv', hg, hn, hcap, cur, hh, by simpa using hsz, by simpa using htake⟩
theorem Bys.new (w : World) (base n cap : Nat) (hb : base ≤ w.heap.size) (hw : w.heap.size = n) (hc : cap ≤ maxLen) (cs : Array Value) (hs : cs.size = cap) : Bys (w.alloc (.cells cs 5)) base n cap [] := by
  subst hw
  exact ⟨hb, Nat.zero_le _, hc, cs, Own.new _ _ _, hs, by simp⟩

theorem info8 : (Try.prog.info? 5).map (fun i => (i.zero, i.size, i.bytes)) = some (some (.int .u8 0), 1, 1) := by kernel_rfl
/-- One number is appended. -/
theorem wpList_append_bys {ops : Array Oper} {rest : List Oper} {o : Oper} {a : Act} {w : World} {Q : Exit → Act → World → Prop} (hgd : o.guard = none) (s x : Operand)
    (ho : o.op = .call { callee := .builtin .append, args := #[s, x], argTypes := #[99, 99] })
    (base g cap : Nat) (xs : List Int) (y : Int) (hs : a.eval s = bval g cap xs) (hi : Bys w base g cap xs) (ad : Addr) (c : Nat)
    (hx : a.eval x = .slice (some ad) 1 c) (hy : w.cell? ad = some (.int .u8 y)) (hl : xs.length < 1000000) (hbase : base ≤ w.heap.size)
    (h : ∀ g' cap' w', Bys w' base g' cap' (xs ++ [y]) → w.grownBy w' (some g) → wpList Try.prog ops Q rest (a.put o.dst (bval g' cap' (xs ++ [y]))) w') : wpList Try.prog ops Q (o :: rest) a w := by
  obtain ⟨i0, hi0, hz0, hz1, hz2⟩ := info_parts info8
  refine wpList_append_own w hgd s x 99 ho base 5 i0 (.int .u8 0) 1 1 Try.underlying99 hi0 hz0 hz1 hz2 rfl (by decide) _ _ _ hs hi.owns ad 1 c [.int .u8 y] hx rfl ?_ (by simp [Value.oneCell']) (by unfold maxLen; omega) (by omega) hbase ?_
  · intro j u hj
    match j, hj with
    | 0, hj =>
      simp at hj; subst hj
      have e : ad.add 0 = ad := by unfold Addr.add; split <;> simp_all
      rw [e]; exact hy
    | j + 1, hj => simp at hj
  · intro v' w' hown hgr hn
    have e1 : (xs ++ [y]).length = xs.length + 1 := by simp
    have e2 : (xs ++ [y]).map (Value.int .u8) = xs.map (Value.int .u8) ++ [.int .u8 y] := by simp
    rw [← e1, ← e2] at hown
    obtain ⟨g', cap', rfl, hI⟩ := Bys.of_owns hown (fun e => by simpa [bval] using hn.1 e)
    exact h g' cap' w' hI hgr

theorem mk0b : ∀ w : World, (Instr.buildSlice 99 0 #[]).run Try.prog w = .ok (.slice (some ⟨w.heap.size, 0, none⟩) 0 0) (w.alloc (.cells #[] 5)) := by
  intro w; kernel_rfl
end Go.Proofs.Ytbibmncepjmgcaa
namespace Go.Proofs.Ytbibmncepjmgcaa
open Go.RowKit

/-- The bytes of the first k places. -/
def chs (n : Int) (ms : List Int) : Nat → List Int
  | 0 => []
  | k + 1 => chs n ms k ++ [chAt n ms k]
theorem chs_len (n : Int) (ms : List Int) (k : Nat) : (chs n ms k).length = k := by
  induction k with
  | zero => rfl
  | succ k ih => simp [chs, ih]
theorem chs_get (n : Int) (ms : List Int) (k i : Nat) (h : i < k) : (chs n ms k)[i]? = some (chAt n ms i) := by
  induction k with
  | zero => omega
  | succ k ih =>
    rw [chs]
    by_cases e : i < k
    · rw [List.getElem?_append_left (by rw [chs_len]; exact e)]; exact ih e
    · have : i = k := by omega
      subst this
      rw [List.getElem?_append_right (by rw [chs_len]; omega), chs_len]; simp
theorem chs_let (n : Int) (ms : List Int) (N : Nat) : chs n ms (2 * N) = letL n ms N (2 * N) := by
  apply List.ext_getElem?
  intro i
  by_cases h : i < 2 * N
  · rw [chs_get _ _ _ _ h, letL_get n ms N (2 * N) (Nat.le_refl _) i h]
  · rw [List.getElem?_eq_none (by rw [chs_len]; omega), List.getElem?_eq_none (by rw [letL_len]; omega)]
set_option maxRecDepth 100000 in
set_option maxHeartbeats 1000000 in
theorem textM_nat (N : Nat) (ms : List Int) (hms : ms.length = 16) (hb : Bytes ms) (w : World) (h1 : 1 ≤ N) (h8 : N ≤ 8) :
    Calls Try.prog 104 #[.agg (dcells N ms)] w fun e w' => e = .returned (.string (strOfNums (chs N ms (2 * N)))) ∧ Below w.heap.size w w' := by
  have hl := Lib.hid hms
  have hbb := Lib.hid hb
  have c0 := dcells_zero N ms
  have hmk := mk0b
  clear hms hb
  go_enter Try.func104, Try.ntmps104
  go_wp2
  have hOa : Own ((w.alloc (.cells (dcells N ms) 53)).alloc (.cells #[] 5)) w.heap.size (dcells N ms) 53 := Own.alloc (Own.new _ _ _) _
  have hIa : Bys ((w.alloc (.cells (dcells N ms) 53)).alloc (.cells #[] 5)) (w.heap.size + 1) (w.heap.size + 1) 0 [] := Bys.new _ _ _ _ (by simp) (by simp) (by decide) #[] rfl
  have hBa : Below w.heap.size w ((w.alloc (.cells (dcells N ms) 53)).alloc (.cells #[] 5)) := ((Below.refl _ _).alloc (Nat.le_refl _) _).alloc (by simp) _
  clear hmk
  go_loopw [3, 4] (fun v i wr => ∃ (k : Nat) (g cap : Nat), k ≤ 2 * N ∧ i = .int .i64 k ∧ v = .slice (some ⟨g, 0, none⟩) k cap ∧ Own wr w.heap.size (dcells N ms) 53 ∧ Bys wr (w.heap.size + 1) g cap (chs N ms k) ∧ Below w.heap.size w wr) (fun _ i _ => (2 * N - intOf i).toNat)
  case atStart => exact ⟨0, _, _, by omega, rfl, rfl, hOa, hIa, hBa⟩
  case round =>
    clear hOa hIa hBa
    obtain ⟨k, g, cap, hk, rfl, rfl, hO, hI, hB⟩ := hrel
    have k0 := hO.cell 0
    rw [c0] at k0
    by_cases hlt : k < 2 * N
    · have hltI : (k : Int) < 2 * N := by omega
      have pb := pl_bd N k (by omega) (by omega) (by omega)
      obtain ⟨p, hp⟩ : ∃ p, pl N k = p := ⟨_, rfl⟩
      rw [hp] at pb
      obtain ⟨pb1, pb2, pb3⟩ := pb
      obtain ⟨m, hm⟩ : ∃ m, ms.getD p.toNat 0 = m := ⟨_, rfl⟩
      have c1 : (dcells N ms)[1 + p.toNat]? = some (.int .u8 m) := by rw [dcells_get _ _ _ (by rw [hl.out]; omega), hm]
      have mb := hbb.out.get p.toNat
      rw [hm] at mb
      obtain ⟨mb1, mb2⟩ := mb
      have hch := Lib.hid (show chAt N ms k = if (k : Int) < pl N m then 40 else 41 by unfold chAt; rw [hp, hm])
      have hP := Lib.hid hp
      have C0 := Lib.hid c0
      have C1 := Lib.hid c1
      have hcl := Lib.hid (chs_len N ms k)
      have hs := hB.size
      clear hp hm c0 c1
      go_wp2_with (first
        | (go_at_call 115; ((with_reducible refine ((placeS_any N k _ (by omega) (by omega) (by omega) (by omega)).mono (fun e w' h => (by rw [hP.out] at h; exact h : e = .returned (.int .i64 p) ∧ w' = _))).mono ?_); rintro e w0 ⟨rfl, rfl⟩)))
      clear k0
      refine wp_region_still_lit (by kernel_rfl) (by kernel_rfl) ?_
      have hOd : Own { w0 with drawn := w0.drawn + 1 } w.heap.size (dcells N ms) 53 := hO
      have hBd : Below w.heap.size w { w0 with drawn := w0.drawn + 1 } := hB.drew
      have hId : Bys { w0 with drawn := w0.drawn + 1 } (w.heap.size + 1) g cap (chs N ms k) := hI
      have hsd : w.heap.size ≤ ({ w0 with drawn := w0.drawn + 1 } : World).heap.size := hs
      clear hO hB hI hs
      generalize ({ w0 with drawn := w0.drawn + 1 } : World) = wd at *
      have hO := hOd
      have hB := hBd
      have hI := hId
      clear hOd hBd hId
      have k0 := hO.cell 0
      rw [C0.out] at k0
      have k1 := hO.cell (1 + p.toNat)
      rw [C1.out] at k1
      have hp16 : p < 16 := pb3
      have cm := Lib.hid (placeS_any N m wd (by omega) (by omega) mb1 mb2)
      have hwr : IntKind.i64.wrap m = m := IntWalk.i64_in _ (by omega)
      still_step
      still_step
      still_step
      still_step
      still_step
      still_step
      still_step
      still_call cm.out
      still_step
      still_step
      refine wpStill_nil ?_
      clear hwr k0 k1
      by_cases g0 : (k : Int) < pl N m
      · have e1 := Lib.hid (show chs N ms (k + 1) = chs N ms k ++ [40] by rw [chs, hch.out, if_pos g0])
        clear hch
        go_wp2_with (first
          | (refine wpList_append_bys rfl (.tmp 28) (.tmp 29) rfl (w.heap.size + 1) g cap (chs N ms k) 40 (by rw [bval, hcl.out]; rfl) (hI.alloc _) ⟨wd.heap.size, 0, none⟩ 1 rfl ((Own.new _ _ _).cell 0) (by rw [hcl.out]; omega) (by simp; have := hO.lt; omega) ?_; intro g2 cap2 w2 hI2 hG2))
        have hO2 := (hO.alloc _).grown hG2 (by have := hI.1; omega)
        have hB2 : Below w.heap.size w w2 := (hB.alloc hsd _).grown hG2 (by simp; omega) (fun k e => by have := hI.1; simp at e; omega)
        rw [← e1.out] at hI2
        clear hO hB hI hG2
        go_wp2
        go_roundw
        case rel => exact ⟨k + 1, g2, cap2, by omega, by go_num, by simp [bval, hcl.out], hO2, hI2, hB2⟩
        case measure => simp [intOf]; omega
      · have e1 := Lib.hid (show chs N ms (k + 1) = chs N ms k ++ [41] by rw [chs, hch.out, if_neg g0])
        clear hch
        go_wp2_with (first
          | (refine wpList_append_bys rfl (.tmp 31) (.tmp 32) rfl (w.heap.size + 1) g cap (chs N ms k) 41 (by rw [bval, hcl.out]; rfl) (hI.alloc _) ⟨wd.heap.size, 0, none⟩ 1 rfl ((Own.new _ _ _).cell 0) (by rw [hcl.out]; omega) (by simp; have := hO.lt; omega) ?_; intro g2 cap2 w2 hI2 hG2))
        have hO2 := (hO.alloc _).grown hG2 (by have := hI.1; omega)
        have hB2 : Below w.heap.size w w2 := (hB.alloc hsd _).grown hG2 (by simp; omega) (fun k e => by have := hI.1; simp at e; omega)
        rw [← e1.out] at hI2
        clear hO hB hI hG2
        go_wp2
        go_roundw
        case rel => exact ⟨k + 1, g2, cap2, by omega, by go_num, by simp [bval, hcl.out], hO2, hI2, hB2⟩
        case measure => simp [intOf]; omega
    · have hk2 : k = 2 * N := by omega
      subst hk2
      have hlen := chs_len N ms (2 * N)
      obtain ⟨_, _, _, cur, hcur, hcs, hct⟩ := hI
      have hcv := run_convert_bytes_arg wr 99 5 Try.underlying99 Try.underlying5 g 0 (2 * N) cap (chs N ms (2 * N)) hlen
        (fun i hi => by
          rw [Nat.zero_add, hcur.cell]
          have e : (cur.toList.take (chs N ms (2 * N)).length)[i]? = ((chs N ms (2 * N)).map (Value.int .u8))[i]? := by rw [hct]
          rw [List.getElem?_take_of_lt (by rw [hlen]; exact hi)] at e
          simpa [show i < (chs N ms (2 * N)).length by rw [hlen]; exact hi] using e) 9 Try.underlying9
      have HL := Lib.hid hlen
      have HT := Lib.hid hct
      clear hlen hct hcs c0
      go_wp2
      go_ret
      exact ⟨rfl, hB⟩
theorem textM_any (n : Int) (ms : List Int) (hms : ms.length = 16) (hb : Bytes ms) (w : World) (h1 : 1 ≤ n) (h8 : n ≤ 8) :
    Calls Try.prog 104 #[.agg (dcells n ms)] w fun e w' => e = .returned (.string (textS n ms)) ∧ Below w.heap.size w w' := by
  have h := textM_nat n.toNat ms hms hb w (by omega) (by omega)
  have e1 : ((n.toNat : Nat) : Int) = n := by omega
  rw [e1, chs_let] at h
  exact h
end Go.Proofs.Ytbibmncepjmgcaa
namespace Go.Proofs.Ytbibmncepjmgcaa
open Go.RowKit
set_option linter.unusedVariables false
set_option maxRecDepth 100000 in
set_option maxHeartbeats 2000000 in
theorem lessS_any (n1 n2 : Int) (ms es : List Int) (hms : ms.length = 16) (hes : es.length = 16) (hb1 : Bytes ms) (hb2 : Bytes es) (h11 : 1 ≤ n1) (h18 : n1 ≤ 8) (h21 : 1 ≤ n2) (h28 : n2 ≤ 8) (w : World) :
    Calls Try.prog 67 #[.agg (dcells n1 ms), .agg (dcells n2 es)] w fun e w' => e = .returned (.bool (Op.bytesLess (textS n1 ms).toList (textS n2 es).toList)) ∧ Below w.heap.size w w' := by
  have hl := Lib.hid hms
  have hl2 := Lib.hid hes
  have hT1 := Lib.hid (fun w => textM_any n1 ms hms hb1 w h11 h18)
  have hT2 := Lib.hid (fun w => textM_any n2 es hes hb2 w h21 h28)
  generalize textS n1 ms = s1 at *
  generalize textS n2 es = s2 at *
  obtain ⟨r, hr⟩ : ∃ r, Op.bytesLess s1.toList s2.toList = r := ⟨_, rfl⟩
  rw [hr]
  have hr' := Lib.hid hr
  clear hr
  clear hms hes hb1 hb2 h11 h18 h21 h28
  go_enter Try.func67, Try.ntmps67
  go_wp2_with fail
  have hA1 : Own (((w.alloc (.cells (dcells n1 ms) 53)).alloc (.cells (dcells n2 es) 53)).drew) w.heap.size (dcells n1 ms) 53 := (Own.new _ _ _).alloc _
  have hA2 : Own (((w.alloc (.cells (dcells n1 ms) 53)).alloc (.cells (dcells n2 es) 53)).drew) (w.heap.size + 1) (dcells n2 es) 53 := Own.at _ _ _ (by simp)
  have b1 : Below w.heap.size w (((w.alloc (.cells (dcells n1 ms) 53)).alloc (.cells (dcells n2 es) 53)).drew) := (((Below.refl _ _).alloc (Nat.le_refl _) _).alloc (by simp) _).drew
  obtain ⟨wd, hwd⟩ : ∃ wd, (((w.alloc (.cells (dcells n1 ms) 53)).alloc (.cells (dcells n2 es) 53)).drew) = wd := ⟨_, rfl⟩
  rw [hwd] at hA1 hA2 b1
  have hlt1 := hA1.lt
  have hlt2 := hA2.lt
  refine wp_region_facts (by kernel_rfl) (by kernel_rfl) (fun a w' => ∃ x4 x5 x6 x7 x8 x9 : Value, a = ⟨List.toArray [.agg (dcells n1 ms), .agg (dcells n2 es), .pointer (some ⟨w.heap.size, 0, none⟩), .pointer (some ⟨w.heap.size + 1, 0, none⟩), x4, x5, x6, x7, x8, x9], []⟩ ∧ Below wd.heap.size wd w') (fun j a w' => match j with | 0 => sl a 5 = .agg (dcells n1 ms) | 1 => sl a 6 = .string s1 | 2 => sl a 7 = .agg (dcells n2 es) | 3 => sl a 8 = .string s2 | 4 => sl a 9 = .bool r | 5 => sl a 4 = .bool r | _ => True) ⟨_, _, _, _, _, _, rfl, by rw [← hwd]; exact Below.refl _ _⟩ ?_ ?_
  · refine (AllOps.cons ?_ (AllOps.cons ?_ (AllOps.cons ?_ (AllOps.cons ?_ (AllOps.cons ?_ (AllOps.cons ?_ AllOps.nil))))))
    · rintro a w0 ⟨x4, x5, x6, x7, x8, x9, rfl, hB⟩ hd K hK
      go_wp2_with (first | (refine wpList_load_row rfl 53 _ rfl _ rfl 53 _ (0, 0) _ (hA1.below hB hlt1) Try.underlying53 rfl (row26 (d17 _ _ (hl.out))) ?_))
      refine hK _ _ ⟨_, _, _, _, _, _, rfl, hB⟩ (rfl) ?_
      rintro (_|_|_|_|_|_|_) hj hn h <;> first | exact h | exact absurd rfl hj | exact waits_no hn (by kernel_rfl)
    · rintro a w0 ⟨x4, x5, x6, x7, x8, x9, rfl, hB⟩ hd K hK
      have d0 : x5 = _ := hd 0 (by kernel_rfl)
      subst d0
      go_wp2_with (first | (go_at_call 104; ((with_reducible refine (hT1.out _).mono ?_); rintro e w2 ⟨rfl, hB2⟩)))
      refine hK _ _ ⟨_, _, _, _, _, _, rfl, hB.trans (hB2.mono hB.size)⟩ (rfl) ?_
      rintro (_|_|_|_|_|_|_) hj hn h <;> first | exact h | exact absurd rfl hj | exact waits_no hn (by kernel_rfl)
    · rintro a w0 ⟨x4, x5, x6, x7, x8, x9, rfl, hB⟩ hd K hK
      go_wp2_with (first | (refine wpList_load_row rfl 53 _ rfl _ rfl 53 _ (0, 0) _ (hA2.below hB hlt2) Try.underlying53 rfl (row26 (d17 _ _ (hl2.out))) ?_))
      refine hK _ _ ⟨_, _, _, _, _, _, rfl, hB⟩ (rfl) ?_
      rintro (_|_|_|_|_|_|_) hj hn h <;> first | exact h | exact absurd rfl hj | exact waits_no hn (by kernel_rfl)
    · rintro a w0 ⟨x4, x5, x6, x7, x8, x9, rfl, hB⟩ hd K hK
      have d0 : x7 = _ := hd 2 (by kernel_rfl)
      subst d0
      go_wp2_with (first | (go_at_call 104; ((with_reducible refine (hT2.out _).mono ?_); rintro e w2 ⟨rfl, hB2⟩)))
      refine hK _ _ ⟨_, _, _, _, _, _, rfl, hB.trans (hB2.mono hB.size)⟩ (rfl) ?_
      rintro (_|_|_|_|_|_|_) hj hn h <;> first | exact h | exact absurd rfl hj | exact waits_no hn (by kernel_rfl)
    · rintro a w0 ⟨x4, x5, x6, x7, x8, x9, rfl, hB⟩ hd K hK
      have d0 : x6 = _ := hd 1 (by kernel_rfl)
      have d1 : x8 = _ := hd 3 (by kernel_rfl)
      subst d0 d1
      go_wp2
      rw [hr'.out]
      refine hK _ _ ⟨_, _, _, _, _, _, rfl, hB⟩ (rfl) ?_
      rintro (_|_|_|_|_|_|_) hj hn h <;> first | exact h | exact absurd rfl hj | exact waits_no hn (by kernel_rfl)
    · rintro a w0 ⟨x4, x5, x6, x7, x8, x9, rfl, hB⟩ hd K hK
      have d0 : x9 = _ := hd 4 (by kernel_rfl)
      subst d0
      go_wp2
      refine hK _ _ ⟨_, _, _, _, _, _, rfl, hB⟩ (rfl) ?_
      rintro (_|_|_|_|_|_|_) hj hn h <;> first | exact h | exact absurd rfl hj | exact waits_no hn (by kernel_rfl)
  · rintro a w0 ⟨x4, x5, x6, x7, x8, x9, rfl, hB⟩ hd
    have d0 : x4 = _ := hd 5 (by decide)
    subst d0
    go_wp2
    go_ret
    exact ⟨rfl, b1.trans (hB.mono b1.size)⟩
theorem less_cmp : ∀ a b : List UInt8, 0 ≤ Lib.compareBytes a b ↔ Op.bytesLess a b = false := by
  intro a
  induction a with
  | nil => intro b; cases b <;> simp [Lib.compareBytes, Op.bytesLess]
  | cons x a ih =>
    intro b
    cases b with
    | nil => simp [Lib.compareBytes, Op.bytesLess]
    | cons y b =>
      have := ih b
      simp only [Lib.compareBytes, Op.bytesLess]
      by_cases h1 : x < y
      · rw [if_pos h1]; simp [h1]
      · rw [if_neg h1]
        by_cases h2 : y < x
        · have hne : (x == y) = false := by rw [beq_eq_false_iff_ne]; intro e; subst e; exact h1 h2
          rw [if_pos h2, hne]; simp [h1]
        · have he : x = y := by
            have a1 := UInt8.not_lt.1 h1
            have a2 := UInt8.not_lt.1 h2
            exact UInt8.le_antisymm a2 a1
          subst he
          rw [if_neg h2, this]; simp
theorem less_of (a b : ByteArray) : 0 ≤ Extern.BytealgCompare.cmp a b ↔ Op.bytesLess a.toList b.toList = false := by
  rw [Lib.cmp_eq, Lib.toList_data, Lib.toList_data]; exact less_cmp _ _
end Go.Proofs.Ytbibmncepjmgcaa
