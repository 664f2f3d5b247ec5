/- The search for half diagrams, as an iterator: its contract, by induction on the letters that are left. -/
import Derived.Test.YtlgdeciikliihaaRgf
import Derived.Test.YtlgdeciikliihaaBys
import Derived.Test.YtlgdeciikliihaaExM
import Derived.Lib.FrozenHead
import Derived.Laws.OwnMore
import Derived.WalkKit
namespace Go.Proofs.Ytlgdeciikliihaa
open Go.RowKit Go.Shelf
attribute [local go_sem] Oper.semAt_some
set_option linter.unusedVariables false
set_option linter.unusedSimpArgs false
theorem Bys.at {w : World} {b cap k : Nat} {xs : List Int} (hk : xs.length = k) (h : w.ownsRow b 5 1 (.slice (some ⟨b, 0, none⟩) k cap) k (xs.map (Value.int .u8))) : Bys w b b cap xs := by
  subst hk
  obtain ⟨g, c, hv, hB⟩ := Bys.of_owns h (fun e => by cases e)
  unfold bval at hv
  simp at hv
  obtain ⟨rfl, rfl⟩ := hv
  exact hB
theorem wpListIn_wanted {F : Fence} {n : Nat} {P : Program} {ops : Array Oper} {rest : List Oper} {o : Oper} {a : Act} {w : World} {Q : Exit → Act → World → Prop} (hw : Region.wanted o (yielded ops a.tmps) = true)
    (h : ∀ K : Act → World → Prop, (∀ a w, wpListIn F n P ops Q rest a w → K a w) → o.wpIn F n P a w K Q) : wpListIn F n P ops Q (o :: rest) a w :=
  wpListIn_step fun K hK => by rw [if_pos hw]; exact h K hK
theorem wpListIn_bys1 {F : Fence} {n : Nat} {ops : Array Oper} {rest : List Oper} {o : Oper} {a : Act} {w : World} {Q : Exit → Act → World → Prop} (hgd : Region.wanted o (yielded ops a.tmps) = true) (s x : Operand)
    (ho : o.op = .call { callee := .builtin .append, args := #[s, x], argTypes := #[86, 86] })
    (b cap k : Nat) (xs : List Int) (y : Int) (hk : xs.length = k) (hs : a.eval s = .slice (some ⟨b, 0, none⟩) k cap) (hi : Bys w b b cap xs) (ad : Addr) (c : Nat)
    (hx : a.eval x = .slice (some ad) 1 c) (hy : w.cell? ad = some (.int .u8 y)) (hr : k + 1 ≤ cap)
    (h : ∀ w', Bys w' b b cap (xs ++ [y]) → w.grownBy w' (some b) → wpListIn F n Try.prog ops Q rest (a.put o.dst (.slice (some ⟨b, 0, none⟩) ((k + 1 : Nat)) cap)) w') : wpListIn F n Try.prog ops Q (o :: rest) a w := by
  obtain ⟨i0, hi0, hz0, hz1, hz2⟩ := info_parts info8
  have hw := hi.owns
  unfold bval at hw
  rw [hk] at hw
  refine wpListIn_wanted hgd fun K hK => ?_
  obtain ⟨w', hrun, r1, r2⟩ := run_append_fits (P := Try.prog) w b 86 o.type 5 i0 1 Try.underlying86 hi0 hz1 b k cap _ hw ad 1 c [.int .u8 y] rfl
    (by
      intro j u hj
      match j, hj with
      | 0, hj =>
        simp at hj; subst hj
        have e : ad.add 0 = ad := by unfold Addr.add; split <;> simp_all
        rw [e]; exact hy
      | j + 1, hj => simp at hj) (by simp [Value.oneCell']) hr
  unfold Oper.wpIn
  refine ⟨?_, ?_⟩
  · simp [Oper.about, ho, resolve, Target.leads, Sem.run_pure]
  · rw [Oper.semAt_plain F _ _ (by rw [ho]; intro c hc'; cases hc')]
    simp [execOp, ho, resolve, invoke, builtin, hs, hx, hrun, Result.andThen]
    refine hK _ _ (h w' (Bys.at (k := k + 1) (by simp [hk]) ?_) r2)
    rw [List.map_append]; exact r1
theorem wpListIn_bysS {F : Fence} {n : Nat} {ops : Array Oper} {rest : List Oper} {o : Oper} {a : Act} {w : World} {Q : Exit → Act → World → Prop} (hgd : Region.wanted o (yielded ops a.tmps) = true) (s x : Operand)
    (ho : o.op = .call { callee := .builtin .append, args := #[s, x], argTypes := #[86, 9] })
    (b cap k : Nat) (xs : List Int) (hk : xs.length = k) (hs : a.eval s = .slice (some ⟨b, 0, none⟩) k cap) (hi : Bys w b b cap xs)
    (hx : a.eval x = .string ⟨#[124]⟩) (hr : k + 1 ≤ cap)
    (h : ∀ w', Bys w' b b cap (xs ++ [124]) → w.grownBy w' (some b) → wpListIn F n Try.prog ops Q rest (a.put o.dst (.slice (some ⟨b, 0, none⟩) ((k + 1 : Nat)) cap)) w') : wpListIn F n Try.prog ops Q (o :: rest) a w := by
  obtain ⟨i0, hi0, hz0, hz1, hz2⟩ := info_parts info8
  obtain ⟨h1, h2, h3, cur, hown, hsz, htk⟩ := hi
  rw [hk] at htk h2
  have hr' := Lib.run_append_room_stringF (P := Try.prog) w 86 9 o.type 5 i0 Try.underlying86 Try.underlying9 hi0 hz1 b k cap cur (0, 0) hown (Nat.zero_le _) ⟨#[124]⟩ hr (by rw [hsz]; exact hr)
  refine wpListIn_wanted hgd fun K hK => ?_
  unfold Oper.wpIn
  refine ⟨?_, ?_⟩
  · simp [Oper.about, ho, resolve, Target.leads, Sem.run_pure]
  · rw [Oper.semAt_plain F _ _ (by rw [ho]; intro c hc'; cases hc')]
    simp [execOp, ho, resolve, invoke, builtin, hs, hx, hr', Result.andThen]
    have e1 : Lib.strCells ⟨#[124]⟩ = [Value.int .u8 124] := rfl
    have e3 : (⟨#[124]⟩ : ByteArray).size = 1 := rfl
    refine hK _ _ (h _ ⟨h1, by rw [List.length_append, hk]; exact hr, h3, _, Own.row hown _, ?_, ?_⟩ ⟨rfl, rfl, rfl, by simp [World.setRow], fun j _ hj => ?_⟩)
    · rw [e1, e3]; simp; omega
    · rw [e1, htk, List.map_append, List.map_cons, List.map_nil]
      simp only [List.append_assoc]
      rw [← List.append_assoc]
      exact List.take_left' (by simp)
    · simp only [World.setRow, Array.getElem?_modify]
      rw [if_neg (fun e => hj (by rw [e]))]
theorem bysConvX {w : World} {base g cap n : Nat} {xs : List Int} (hI : Bys w base g cap xs) (hn : xs.length = n) :
    (convert 86 9 (.slice (some ⟨g, 0, none⟩) n cap)).run Try.prog w = .ok (.string (strOfNums xs)) w := by
  obtain ⟨_, _, _, cur, hcur, hcs, hct⟩ := hI
  exact run_convert_bytes_arg w 86 5 Try.underlying86 Try.underlying5 g 0 n cap xs hn
    (fun i hi => by
      rw [Nat.zero_add, hcur.cell]
      have e : (cur.toList.take xs.length)[i]? = (xs.map (Value.int .u8))[i]? := by rw [hct]
      rw [List.getElem?_take_of_lt (by rw [hn]; exact hi)] at e
      simpa [show i < xs.length by rw [hn]; exact hi] using e) 9 Try.underlying9
theorem yieldAny {F : Fence} (hd : F.depth = none) {m : Nat} (m' : Nat) {P : Program} {l : Nat} {args : Array Value} {W : World} {R : Ending → World → Prop} (h : YieldAt F m P l args W R) : YieldAt F m' P l args W R := by
  obtain ⟨fn, tmps, assign, body, hy, h1, h2⟩ := h
  exact ⟨fn, tmps, assign, body, hy, h1, fun c cs _ => h2 c cs (fun d hh => by rw [hd] at hh; cases hh)⟩
/-- A half diagram as a value. -/
def hval (x : List UInt8) : Value := .string ⟨x.toArray⟩
def ExtPost (J : List (List UInt8) → World → Prop) (b B0 n : Nat) (done L : List (List UInt8)) (pre : List UInt8) (W : World) (e : Ending) (W' : World) : Prop :=
  e = .returned (.bool true) ∧ J (done ++ L) W' ∧ Bys W' b b n (MI pre) ∧ Below B0 W W' ∧ b < W'.heap.size
set_option maxRecDepth 100000 in
set_option maxHeartbeats 4000000 in
theorem ext_in (F : Fence) (hd : F.depth = none) (hf : F.fn 115) (hro : F.round = none) (l b B0 n : Nat) (hB0 : B0 ≤ b) (hn : n ≤ 100) (LL : List (List UInt8)) (J : List (List UInt8) → World → Prop)
    (hJ : ∀ pre A B row, J pre A → A.grownBy B row → (∀ r, row = some r → r = b) → J pre B)
    (hY : ∀ m pre x rest W1, LL = pre ++ x :: rest → J pre W1 → b < W1.heap.size → YieldAt F m Try.prog l #[hval x] W1 fun e W' =>
      e = .returned (.bool true) ∧ J (pre ++ [x]) W' ∧ W'.heap[b]? = W1.heap[b]? ∧ W1.heap.size ≤ W'.heap.size ∧ Below B0 W1 W') (r : Nat) :
    ∀ (bk o : Nat) (pre : List UInt8) (dn rest : List (List UInt8)) (m k : Nat) (W : World), Bys W b b n (MI pre) → pre.length = k → k + r = n → bk ≤ k → o ≤ 100 → LL = dn ++ exH r bk o pre ++ rest → J dn W →
      CallsIn F m Try.prog 115 #[.slice (some ⟨b, 0, none⟩) k n, .int .i64 bk, .int .i64 o, .int .i64 r, .func (.yield l) #[] #[]] W (ExtPost J b B0 n dn (exH r bk o pre) pre W) := by
  have hdd : ∀ k : Nat, (F.depth.isSome = true → 1 ≤ k) := fun k h => by rw [hd] at h; cases h
  induction r with
  | zero =>
    intro bk o pre dn rest m k W hI hk hkr hbk ho hL hJd
    have hcv := bysConvX hI (show (MI pre).length = k by rw [MI_len, hk])
    rw [MI_str] at hcv
    obtain ⟨fn, tmps, assign, body, hy, hR⟩ := hY (m - 1) dn pre rest W (by rw [hL, exH_zero]; simp) hJd hI.lt
    unfold hval at hy
    have hI' := Lib.hid hI
    clear hL hI hJ hY
    refine callsIn_of_wp Try.func115 rfl hf ?_ hro
    simp only [Try.ntmps115, List.size_toArray, List.length_cons, List.length_nil, Nat.reduceAdd, Nat.reduceSub, Array.replicate_succ, Array.replicate_zero, List.push_toArray, List.append_toArray, List.nil_append, List.cons_append]
    gi_wp2_with (first
      | ((try refine ⟨hdd _, ?_⟩); refine hR.mono ?_; clear hR; rintro e W2 ⟨rfl, hJ2, hs2, hz2, hb2⟩))
    go_ret
    refine ⟨rfl, by rw [exH_zero]; exact hJ2, ?_, hb2, by have := hI'.out.lt; omega⟩
    obtain ⟨i1, i2, i3, cur, i4, i5, i6⟩ := hI'.out
    exact ⟨i1, i2, i3, cur, hs2.trans i4, i5, i6⟩
  | succ r ih =>
    intro bk o pre dn rest m k W hI hk hkr hbk ho hL hJd
    by_cases h1 : bk + o < r + 1
    · cases bk with
      | succ bk' =>
        obtain ⟨A, hA⟩ : ∃ A, exH r ((bk' + 1) + 1) o (pre ++ [40]) = A := ⟨_, rfl⟩
        have e0 : exH (r + 1) (bk' + 1) o pre = A ++ exH r bk' o (pre ++ [41]) := by
          rw [exH_step, if_pos h1, hA]
          rw [if_pos (by omega)]; rfl
        obtain ⟨C, hC⟩ : ∃ C : List (List UInt8), exH r bk' o (pre ++ [41]) = C := ⟨_, rfl⟩
        rw [hC] at e0
        rw [e0] at hL ⊢
        have i1 : ∀ W1, Bys W1 b b n (MI (pre ++ [40])) → J dn W1 → CallsIn F (m - 1) Try.prog 115 #[.slice (some ⟨b, 0, none⟩) (k + 1 : Nat) n, .int .i64 ((bk' : Int) + 1 + 1), .int .i64 (o : Int), .int .i64 r, .func (.yield l) #[] #[]] W1 (ExtPost J b B0 n dn A (pre ++ [40]) W1) := fun W1 hB hj => by
          have := ih ((bk' + 1) + 1) o (pre ++ [40]) dn (C ++ rest) (m - 1) (k + 1) W1 hB (by simp [hk]) (by omega) (by omega) (by omega) (by rw [hL, hA]; simp [List.append_assoc]) hj
          rw [hA] at this; exact this
        have i1 := Lib.hid i1
        have i2 : ∀ W1, Bys W1 b b n (MI (pre ++ [41])) → J (dn ++ A) W1 → CallsIn F (m - 1) Try.prog 115 #[.slice (some ⟨b, 0, none⟩) (k + 1 : Nat) n, .int .i64 bk', .int .i64 o, .int .i64 r, .func (.yield l) #[] #[]] W1 (ExtPost J b B0 n (dn ++ A) C (pre ++ [41]) W1) := fun W1 hB hj => by
          have := ih bk' o (pre ++ [41]) (dn ++ A) rest (m - 1) (k + 1) W1 hB (by simp [hk]) (by omega) (by omega) (by omega) (by rw [hL, hC]; simp [List.append_assoc]) hj
          rw [hC] at this; exact this
        have i2 := Lib.hid i2
        have HI := Lib.hid hI
        have hlt := hI.lt
        have hml := Lib.hid (show (MI pre).length = k by rw [MI_len, hk])
        have m40 := Lib.hid (show MI pre ++ [40] = MI (pre ++ [40]) by rw [MI_app]; rfl)
        have m2 := Lib.hid (show MI pre ++ [41] = MI (pre ++ [41]) by rw [MI_app]; rfl)
        have HJ := Lib.hid hJ
        have j1 : ((bk' : Int) + 1) + (o : Int) < (r : Int) + 1 := by omega
        have jb : (0 : Int) < (bk' : Int) + 1 := by omega
        have jr : (((r : Int) + 1) == 0) = false := by simp; omega
        have hkn : k + 1 ≤ n := by omega
        have hJd' := Lib.hid hJd
        clear hL e0 hC ih hY hJ hI hJd hA
        refine callsIn_of_wp Try.func115 rfl hf ?_ hro
        simp only [Try.ntmps115, List.size_toArray, List.length_cons, List.length_nil, Nat.reduceAdd, Nat.reduceSub, Array.replicate_succ, Array.replicate_zero, List.push_toArray, List.append_toArray, List.nil_append, List.cons_append]
        gi_wp2_with (first
          | (refine wpListIn_bys1 rfl (.tmp 23) (.tmp 24) rfl b n k (MI pre) 40 hml.out rfl (HI.out.alloc _) ⟨W.heap.size, 0, none⟩ 1 rfl ((Own.new _ _ _).cell 0) hkn ?_; intro W2 hI2 hG2; rw [m40.out] at hI2; have hJ2 := HJ.out _ _ _ _ (HJ.out _ _ _ _ hJd'.out (World.grownBy_alloc W (.cells #[Value.int .u8 40] 5) none) (fun r e => by cases e)) hG2 (fun r e => by cases e; rfl); have hB2 : Below B0 W W2 := ((Below.refl B0 W).alloc (by omega) _).grown hG2 (by simp; omega) (fun k e => by cases e; omega))
          | ((try refine ⟨hdd _, ?_⟩); gi_at_call 115; refine (i1.out W2 hI2 hJ2).mono ?_; clear i1; rintro e W3 ⟨rfl, hJ3, hI3, hB3, hl3⟩; have hI3b : Bys W3 b b n (MI pre) := Bys.pop (x := 40) (by rw [m40.out]; exact hI3); have hB03 := hB2.trans hB3)
          | (refine wpListIn_bys1 rfl (.tmp 37) (.tmp 38) rfl b n k (MI pre) 41 hml.out rfl (hI3b.alloc _) ⟨W3.heap.size, 0, none⟩ 1 rfl ((Own.new _ _ _).cell 0) hkn ?_; intro W4 hI4 hG4; rw [m2.out] at hI4; have hJ4 := HJ.out _ _ _ _ (HJ.out _ _ _ _ hJ3 (World.grownBy_alloc W3 (.cells #[Value.int .u8 41] 5) none) (fun r e => by cases e)) hG4 (fun r e => by cases e; rfl); have hB4 : Below B0 W W4 := (hB03.alloc (by omega) _).grown hG4 (by simp; omega) (fun k e => by cases e; omega))
          | ((try refine ⟨hdd _, ?_⟩); gi_at_call 115; refine (i2.out W4 hI4 hJ4).mono ?_; clear i2; rintro e W5 ⟨rfl, hJ5, hI5, hB5, hl5⟩; have hI5b : Bys W5 b b n (MI pre) := Bys.pop (x := 41) (by rw [m2.out]; exact hI5)))
        go_ret
        exact ⟨rfl, by rw [← List.append_assoc]; exact hJ5, hI5b, hB4.trans hB5, hl5⟩
      | zero =>
        cases o with
        | zero =>
          obtain ⟨A, hA⟩ : ∃ A, exH r (0 + 1) 0 (pre ++ [40]) = A := ⟨_, rfl⟩
          have e0 : exH (r + 1) 0 0 pre = A ++ [] := by
            rw [exH_step, if_pos h1, hA]
            rw [if_neg (by omega), if_pos rfl]
          obtain ⟨C, hC⟩ : ∃ C : List (List UInt8), [] = C := ⟨_, rfl⟩
          rw [hC] at e0
          rw [e0] at hL ⊢
          have i1 : ∀ W1, Bys W1 b b n (MI (pre ++ [40])) → J dn W1 → CallsIn F (m - 1) Try.prog 115 #[.slice (some ⟨b, 0, none⟩) (k + 1 : Nat) n, .int .i64 1, .int .i64 0, .int .i64 r, .func (.yield l) #[] #[]] W1 (ExtPost J b B0 n dn A (pre ++ [40]) W1) := fun W1 hB hj => by
            have := ih (0 + 1) 0 (pre ++ [40]) dn (C ++ rest) (m - 1) (k + 1) W1 hB (by simp [hk]) (by omega) (by omega) (by omega) (by rw [hL, hA]; simp [List.append_assoc]) hj
            rw [hA] at this; exact this
          have i1 := Lib.hid i1
          have hC2 := hC.symm
          have HI := Lib.hid hI
          have hlt := hI.lt
          have hml := Lib.hid (show (MI pre).length = k by rw [MI_len, hk])
          have m40 := Lib.hid (show MI pre ++ [40] = MI (pre ++ [40]) by rw [MI_app]; rfl)
          have HJ := Lib.hid hJ
          have j1 : 0 + 0 < (r : Int) + 1 := by omega
          have jb : ¬ (0 : Int) < 0 := by omega
          have jr : (((r : Int) + 1) == 0) = false := by simp; omega
          have hkn : k + 1 ≤ n := by omega
          have hJd' := Lib.hid hJd
          clear hL e0 hC ih hY hJ hI hJd hA
          refine callsIn_of_wp Try.func115 rfl hf ?_ hro
          simp only [Try.ntmps115, List.size_toArray, List.length_cons, List.length_nil, Nat.reduceAdd, Nat.reduceSub, Array.replicate_succ, Array.replicate_zero, List.push_toArray, List.append_toArray, List.nil_append, List.cons_append]
          gi_wp2_with (first
            | (refine wpListIn_bys1 rfl (.tmp 23) (.tmp 24) rfl b n k (MI pre) 40 hml.out rfl (HI.out.alloc _) ⟨W.heap.size, 0, none⟩ 1 rfl ((Own.new _ _ _).cell 0) hkn ?_; intro W2 hI2 hG2; rw [m40.out] at hI2; have hJ2 := HJ.out _ _ _ _ (HJ.out _ _ _ _ hJd'.out (World.grownBy_alloc W (.cells #[Value.int .u8 40] 5) none) (fun r e => by cases e)) hG2 (fun r e => by cases e; rfl); have hB2 : Below B0 W W2 := ((Below.refl B0 W).alloc (by omega) _).grown hG2 (by simp; omega) (fun k e => by cases e; omega))
            | ((try refine ⟨hdd _, ?_⟩); gi_at_call 115; refine (i1.out W2 hI2 hJ2).mono ?_; clear i1; rintro e W3 ⟨rfl, hJ3, hI3, hB3, hl3⟩; have hI3b : Bys W3 b b n (MI pre) := Bys.pop (x := 40) (by rw [m40.out]; exact hI3); have hB03 := hB2.trans hB3))
          go_ret
          exact ⟨rfl, by subst hC2; rw [List.append_nil]; exact hJ3, hI3b, hB03, hl3⟩
        | succ o' =>
          obtain ⟨A, hA⟩ : ∃ A, exH r (0 + 1) (o' + 1) (pre ++ [40]) = A := ⟨_, rfl⟩
          have e0 : exH (r + 1) 0 (o' + 1) pre = A ++ exH r 0 o' (pre ++ [124]) := by
            rw [exH_step, if_pos h1, hA]
            rw [if_neg (by omega), if_neg (by omega)]; rfl
          obtain ⟨C, hC⟩ : ∃ C : List (List UInt8), exH r 0 o' (pre ++ [124]) = C := ⟨_, rfl⟩
          rw [hC] at e0
          rw [e0] at hL ⊢
          have i1 : ∀ W1, Bys W1 b b n (MI (pre ++ [40])) → J dn W1 → CallsIn F (m - 1) Try.prog 115 #[.slice (some ⟨b, 0, none⟩) (k + 1 : Nat) n, .int .i64 1, .int .i64 ((o' : Int) + 1), .int .i64 r, .func (.yield l) #[] #[]] W1 (ExtPost J b B0 n dn A (pre ++ [40]) W1) := fun W1 hB hj => by
            have := ih (0 + 1) (o' + 1) (pre ++ [40]) dn (C ++ rest) (m - 1) (k + 1) W1 hB (by simp [hk]) (by omega) (by omega) (by omega) (by rw [hL, hA]; simp [List.append_assoc]) hj
            rw [hA] at this; exact this
          have i1 := Lib.hid i1
          have i2 : ∀ W1, Bys W1 b b n (MI (pre ++ [124])) → J (dn ++ A) W1 → CallsIn F (m - 1) Try.prog 115 #[.slice (some ⟨b, 0, none⟩) (k + 1 : Nat) n, .int .i64 0, .int .i64 o', .int .i64 r, .func (.yield l) #[] #[]] W1 (ExtPost J b B0 n (dn ++ A) C (pre ++ [124]) W1) := fun W1 hB hj => by
            have := ih 0 o' (pre ++ [124]) (dn ++ A) rest (m - 1) (k + 1) W1 hB (by simp [hk]) (by omega) (by omega) (by omega) (by rw [hL, hC]; simp [List.append_assoc]) hj
            rw [hC] at this; exact this
          have i2 := Lib.hid i2
          have HI := Lib.hid hI
          have hlt := hI.lt
          have hml := Lib.hid (show (MI pre).length = k by rw [MI_len, hk])
          have m40 := Lib.hid (show MI pre ++ [40] = MI (pre ++ [40]) by rw [MI_app]; rfl)
          have m2 := Lib.hid (show MI pre ++ [124] = MI (pre ++ [124]) by rw [MI_app]; rfl)
          have HJ := Lib.hid hJ
          have j1 : 0 + ((o' : Int) + 1) < (r : Int) + 1 := by omega
          have jb : ¬ (0 : Int) < 0 := by omega
          have jo : (((o' : Int) + 1) == 0) = false := by simp; omega
          have jr : (((r : Int) + 1) == 0) = false := by simp; omega
          have hkn : k + 1 ≤ n := by omega
          have hJd' := Lib.hid hJd
          clear hL e0 hC ih hY hJ hI hJd hA
          refine callsIn_of_wp Try.func115 rfl hf ?_ hro
          simp only [Try.ntmps115, List.size_toArray, List.length_cons, List.length_nil, Nat.reduceAdd, Nat.reduceSub, Array.replicate_succ, Array.replicate_zero, List.push_toArray, List.append_toArray, List.nil_append, List.cons_append]
          gi_wp2_with (first
            | (refine wpListIn_bys1 rfl (.tmp 23) (.tmp 24) rfl b n k (MI pre) 40 hml.out rfl (HI.out.alloc _) ⟨W.heap.size, 0, none⟩ 1 rfl ((Own.new _ _ _).cell 0) hkn ?_; intro W2 hI2 hG2; rw [m40.out] at hI2; have hJ2 := HJ.out _ _ _ _ (HJ.out _ _ _ _ hJd'.out (World.grownBy_alloc W (.cells #[Value.int .u8 40] 5) none) (fun r e => by cases e)) hG2 (fun r e => by cases e; rfl); have hB2 : Below B0 W W2 := ((Below.refl B0 W).alloc (by omega) _).grown hG2 (by simp; omega) (fun k e => by cases e; omega))
            | ((try refine ⟨hdd _, ?_⟩); gi_at_call 115; refine (i1.out W2 hI2 hJ2).mono ?_; clear i1; rintro e W3 ⟨rfl, hJ3, hI3, hB3, hl3⟩; have hI3b : Bys W3 b b n (MI pre) := Bys.pop (x := 40) (by rw [m40.out]; exact hI3); have hB03 := hB2.trans hB3)
            | (refine wpListIn_bysS rfl (.tmp 50) (.const (.string ⟨#[124]⟩)) rfl b n k (MI pre) hml.out rfl hI3b rfl hkn ?_; intro W4 hI4 hG4; rw [m2.out] at hI4; have hJ4 := HJ.out _ _ _ _ hJ3 hG4 (fun r e => by cases e; rfl); have hB4 : Below B0 W W4 := hB03.grown hG4 (by omega) (fun k e => by cases e; omega))
            | ((try refine ⟨hdd _, ?_⟩); gi_at_call 115; refine (i2.out W4 hI4 hJ4).mono ?_; clear i2; rintro e W5 ⟨rfl, hJ5, hI5, hB5, hl5⟩; have hI5b : Bys W5 b b n (MI pre) := Bys.pop (x := 124) (by rw [m2.out]; exact hI5)))
          go_ret
          exact ⟨rfl, by rw [← List.append_assoc]; exact hJ5, hI5b, hB4.trans hB5, hl5⟩
    · cases bk with
      | succ bk' =>
        have e0 : exH (r + 1) (bk' + 1) o pre = [] ++ exH r bk' o (pre ++ [41]) := by
          rw [exH_step, if_neg h1]
          rw [if_pos (by omega)]; rfl
        obtain ⟨C, hC⟩ : ∃ C : List (List UInt8), exH r bk' o (pre ++ [41]) = C := ⟨_, rfl⟩
        rw [hC] at e0
        rw [e0] at hL ⊢
        have i2 : ∀ W1, Bys W1 b b n (MI (pre ++ [41])) → J dn W1 → CallsIn F (m - 1) Try.prog 115 #[.slice (some ⟨b, 0, none⟩) (k + 1 : Nat) n, .int .i64 bk', .int .i64 o, .int .i64 r, .func (.yield l) #[] #[]] W1 (ExtPost J b B0 n dn C (pre ++ [41]) W1) := fun W1 hB hj => by
          have := ih bk' o (pre ++ [41]) dn rest (m - 1) (k + 1) W1 hB (by simp [hk]) (by omega) (by omega) (by omega) (by rw [hL, hC]; simp [List.append_assoc]) hj
          rw [hC] at this; exact this
        have i2 := Lib.hid i2
        have HI := Lib.hid hI
        have hlt := hI.lt
        have hml := Lib.hid (show (MI pre).length = k by rw [MI_len, hk])
        have m2 := Lib.hid (show MI pre ++ [41] = MI (pre ++ [41]) by rw [MI_app]; rfl)
        have HJ := Lib.hid hJ
        have j1 : ¬ ((bk' : Int) + 1) + (o : Int) < (r : Int) + 1 := by omega
        have jb : (0 : Int) < (bk' : Int) + 1 := by omega
        have jr : (((r : Int) + 1) == 0) = false := by simp; omega
        have hkn : k + 1 ≤ n := by omega
        have hJd' := Lib.hid hJd
        clear hL e0 hC ih hY hJ hI hJd
        refine callsIn_of_wp Try.func115 rfl hf ?_ hro
        simp only [Try.ntmps115, List.size_toArray, List.length_cons, List.length_nil, Nat.reduceAdd, Nat.reduceSub, Array.replicate_succ, Array.replicate_zero, List.push_toArray, List.append_toArray, List.nil_append, List.cons_append]
        gi_wp2_with (first
          | (refine wpListIn_bys1 rfl (.tmp 37) (.tmp 38) rfl b n k (MI pre) 41 hml.out rfl (HI.out.alloc _) ⟨W.heap.size, 0, none⟩ 1 rfl ((Own.new _ _ _).cell 0) hkn ?_; intro W4 hI4 hG4; rw [m2.out] at hI4; have hJ4 := HJ.out _ _ _ _ (HJ.out _ _ _ _ hJd'.out (World.grownBy_alloc W (.cells #[Value.int .u8 41] 5) none) (fun r e => by cases e)) hG4 (fun r e => by cases e; rfl); have hB4 : Below B0 W W4 := ((Below.refl B0 W).alloc (by omega) _).grown hG4 (by simp; omega) (fun k e => by cases e; omega))
          | ((try refine ⟨hdd _, ?_⟩); gi_at_call 115; refine (i2.out W4 hI4 hJ4).mono ?_; clear i2; rintro e W5 ⟨rfl, hJ5, hI5, hB5, hl5⟩; have hI5b : Bys W5 b b n (MI pre) := Bys.pop (x := 41) (by rw [m2.out]; exact hI5)))
        go_ret
        exact ⟨rfl, by exact hJ5, hI5b, hB4.trans hB5, hl5⟩
      | zero =>
        cases o with
        | zero =>
          exact absurd (show 0 + 0 < r + 1 by omega) h1
        | succ o' =>
          have e0 : exH (r + 1) 0 (o' + 1) pre = [] ++ exH r 0 o' (pre ++ [124]) := by
            rw [exH_step, if_neg h1]
            rw [if_neg (by omega), if_neg (by omega)]; rfl
          obtain ⟨C, hC⟩ : ∃ C : List (List UInt8), exH r 0 o' (pre ++ [124]) = C := ⟨_, rfl⟩
          rw [hC] at e0
          rw [e0] at hL ⊢
          have i2 : ∀ W1, Bys W1 b b n (MI (pre ++ [124])) → J dn W1 → CallsIn F (m - 1) Try.prog 115 #[.slice (some ⟨b, 0, none⟩) (k + 1 : Nat) n, .int .i64 0, .int .i64 o', .int .i64 r, .func (.yield l) #[] #[]] W1 (ExtPost J b B0 n dn C (pre ++ [124]) W1) := fun W1 hB hj => by
            have := ih 0 o' (pre ++ [124]) dn rest (m - 1) (k + 1) W1 hB (by simp [hk]) (by omega) (by omega) (by omega) (by rw [hL, hC]; simp [List.append_assoc]) hj
            rw [hC] at this; exact this
          have i2 := Lib.hid i2
          have HI := Lib.hid hI
          have hlt := hI.lt
          have hml := Lib.hid (show (MI pre).length = k by rw [MI_len, hk])
          have m2 := Lib.hid (show MI pre ++ [124] = MI (pre ++ [124]) by rw [MI_app]; rfl)
          have HJ := Lib.hid hJ
          have j1 : ¬ 0 + ((o' : Int) + 1) < (r : Int) + 1 := by omega
          have jb : ¬ (0 : Int) < 0 := by omega
          have jo : (((o' : Int) + 1) == 0) = false := by simp; omega
          have jr : (((r : Int) + 1) == 0) = false := by simp; omega
          have hkn : k + 1 ≤ n := by omega
          have hJd' := Lib.hid hJd
          clear hL e0 hC ih hY hJ hI hJd
          refine callsIn_of_wp Try.func115 rfl hf ?_ hro
          simp only [Try.ntmps115, List.size_toArray, List.length_cons, List.length_nil, Nat.reduceAdd, Nat.reduceSub, Array.replicate_succ, Array.replicate_zero, List.push_toArray, List.append_toArray, List.nil_append, List.cons_append]
          gi_wp2_with (first
            | (refine wpListIn_bysS rfl (.tmp 50) (.const (.string ⟨#[124]⟩)) rfl b n k (MI pre) hml.out rfl HI.out rfl hkn ?_; intro W4 hI4 hG4; rw [m2.out] at hI4; have hJ4 := HJ.out _ _ _ _ hJd'.out hG4 (fun r e => by cases e; rfl); have hB4 : Below B0 W W4 := (Below.refl B0 W).grown hG4 (by omega) (fun k e => by cases e; omega))
            | ((try refine ⟨hdd _, ?_⟩); gi_at_call 115; refine (i2.out W4 hI4 hJ4).mono ?_; clear i2; rintro e W5 ⟨rfl, hJ5, hI5, hB5, hl5⟩; have hI5b : Bys W5 b b n (MI pre) := Bys.pop (x := 124) (by rw [m2.out]; exact hI5)))
          go_ret
          exact ⟨rfl, by exact hJ5, hI5b, hB4.trans hB5, hl5⟩
end Go.Proofs.Ytlgdeciikliihaa
