/- The model's test of diagrams with blobs. -/
import Derived.Test.YtbegolbognkefaaOps
namespace Go.Proofs.Ytbegolbognkefaa
open Go.RowKit
set_option linter.unusedVariables false
set_option linter.unusedSimpArgs false
/-- What is asked of a point: without a blob, or its line open to the left, and the blob at its other end. -/
def okB (n : Int) (ms : List Int) (bs : List Bool) (i : Nat) : Bool := !(bs.getD i false) || (decide ((i : Int) < 2 * n) && (opB n ms (2 * n).toNat).getD i false && bs.getD (mate ms i).toNat false)
def isB (n : Int) (ms : List Int) (bs : List Bool) : Bool := isD n ms && (List.range 16).all (okB n ms bs)
theorem isB_no (n : Int) (ms : List Int) (bs : List Bool) (i : Nat) (hi : i < 16) (h : okB n ms bs i = false) : isB n ms bs = false := by
  unfold isB
  rw [Bool.and_eq_false_iff]
  right
  rw [List.all_eq_false]
  exact ⟨i, by simpa using hi, by simp [h]⟩
theorem isB_yes (n : Int) (ms : List Int) (bs : List Bool) (hd : isD n ms = true) (h : ∀ i, i < 16 → okB n ms bs i = true) : isB n ms bs = true := by
  unfold isB
  rw [hd, Bool.true_and, List.all_eq_true]
  intro i hi
  exact h i (by simpa using hi)
theorem isB_d (n : Int) (ms : List Int) (bs : List Bool) (hd : isD n ms = false) : isB n ms bs = false := by unfold isB; rw [hd]; rfl
theorem okB_mk (n : Int) (ms : List Int) (bs : List Bool) (i : Nat) (b o c : Bool) (hb : bs.getD i false = b) (ho : (opB n ms (2 * n).toNat).getD i false = o) (hc : bs.getD (mate ms i).toNat false = c) : okB n ms bs i = (!b || (decide ((i : Int) < 2 * n) && o && c)) := by
  unfold okB; rw [hb, ho, hc]
theorem net_mate {n : Int} {ms : List Int} (h : Net n ms) (i : Int) (h0 : 0 ≤ i) (h2 : i < 2 * n) : 0 ≤ mate ms i ∧ mate ms i < 2 * n ∧ mate ms (mate ms i) = i := by
  have b := pl_lt n i h0 h2
  have q := h.lt _ b.1 b.2
  have m1 := h.mt _ b.1 b.2
  rw [pl_pl n i h0 h2] at m1
  have c := pl_lt n _ q.1 q.2.1
  have m2 := h.mt _ q.1 q.2.1
  rw [h.inv _ b.1 b.2, pl_pl n i h0 h2] at m2
  rw [m1]
  exact ⟨c.1, c.2, m2⟩
set_option maxRecDepth 100000 in
set_option maxHeartbeats 4000000 in
theorem isBS_ok (n : Int) (ms : List Int) (bs : List Bool) (hms : ms.length = 16) (hbs : bs.length = 16) (hb : Bytes ms) (hd : isD n ms = true) (w : World) :
    Calls Try.prog 43 #[.agg (bcl n ms bs)] w fun e w' => e = .returned (.bool (isB n ms bs)) ∧ Below w.heap.size w w' := by
  have hn := net_of n ms hms hb hd
  obtain ⟨h1, h8⟩ := hn.bd
  have hl := Lib.hid hms
  have hk := Lib.hid hbs
  have hbb := Lib.hid hb
  have hc := Lib.hid (fun w => l01Is_dec n ms hms hb w)
  have hop := Lib.hid (fun w => opS_any n ms hms hb hn w)
  rw [hd] at hc
  have hnm := Lib.hid (fun (i : Int) h0 h2 => net_mate hn i h0 h2)
  have hno := Lib.hid (isB_no n ms bs)
  have hyes := Lib.hid (isB_yes n ms bs hd)
  have hmk := Lib.hid (okB_mk n ms bs)
  have hOL := Lib.hid (opB_len n ms (2 * n).toNat)
  obtain ⟨ob, hob⟩ : ∃ ob, opB n ms (2 * n).toNat = ob := ⟨_, rfl⟩
  rw [hob] at hop hOL hmk
  obtain ⟨R, hR⟩ : ∃ R, isB n ms bs = R := ⟨_, rfl⟩
  rw [hR] at hno hyes ⊢
  clear hms hb hd hn hob hbs hR
  go_enter Try.func43, Try.ntmps43
  go_wp2_with (first
    | (refine wpList_load_part rfl 28 _ rfl _ 0 rfl (dcells _ _) _ (Own.bdia (Own.new _ _ _) (hl.out)) Try.underlying28 rfl (row26 (d17 _ _ (hl.out))) ?_)
    | ((go_at_call 37; ((with_reducible refine (hc.out _).mono ?_); rintro e w1 ⟨rfl, hB1⟩)); have hO1 : Own w1 w.heap.size (bcl n ms bs) 38 := (Own.new _ _ _).below hB1 (by simp))
    | (refine wpList_load_part rfl 28 _ rfl _ 0 rfl (dcells _ _) _ (Own.bdia (hO1) (hl.out)) Try.underlying28 rfl (row26 (d17 _ _ (hl.out))) ?_)
    | ((go_at_call 38; ((with_reducible refine (hop.out _).mono ?_); rintro e w2 ⟨rfl, hB2⟩)); have hO2 := hO1.below hB2 hO1.lt)
    | (refine wpList_store_own rfl 33 _ _ rfl _ _ rfl rfl 33 _ (Own.new w2 _ _) (rowbo (o16 _ hOL.out)) (by rw [o16 _ hOL.out]; rfl) (bools_one _) ?_; intro w3 hT3 hN3))
  have b0 : Below w.heap.size w (w.alloc (.cells (bcl n ms bs) 38)) := (Below.refl _ _).alloc (Nat.le_refl _) _
  have b1 := b0.trans (hB1.mono b0.size)
  have b2 := b1.trans (hB2.mono b1.size)
  have hlt2 := hO2.lt
  have nB : Below w.heap.size w w3 := (b2.alloc b2.size _).trans (hN3.below.mono (by omega))
  have nO : Own w3 w.heap.size (bcl n ms bs) 38 := (hO2.alloc _).only hN3 (by omega)
  obtain ⟨gt, hgt⟩ : ∃ gt, w2.heap.size = gt := ⟨_, rfl⟩
  rw [hgt] at hT3 ⊢
  clear hB1 hB2 hN3 hO1 hO2 b0 b1 b2 hgt hlt2
  go_loop [4] (fun i => ∃ k : Nat, k ≤ 16 ∧ i = .int .i64 k ∧ Hid (∀ j : Nat, j < k → okB n ms bs j = true)) (fun i => (16 - intOf i).toNat)
  case atStart => exact ⟨0, by omega, rfl, Lib.hid (fun j hj => by omega)⟩
  case round =>
    obtain ⟨k, hk16, rfl, hJ⟩ := hrel
    have k0 := nO.cell 0
    rw [bcl_zero] at k0
    by_cases hlt : k < 16
    · have c1 := nO.cell (17 + k)
      rw [bcl_blob _ _ _ hl.out k (by rw [hk.out]; exact hlt)] at c1
      have c2 := hT3.cell k
      rw [bools_get _ _ (by rw [hOL.out]; exact hlt)] at c2
      have c3 := nO.cell (1 + k)
      rw [bcl_mate _ _ _ k (by rw [hl.out]; exact hlt)] at c3
      obtain ⟨b, hb⟩ : ∃ b, bs.getD k false = b := ⟨_, rfl⟩
      obtain ⟨o, ho⟩ : ∃ o, ob.getD k false = o := ⟨_, rfl⟩
      obtain ⟨m, hm⟩ : ∃ m, mate ms (k : Int) = m := ⟨_, rfl⟩
      have mb := hbb.out.get k
      rw [← mate_nat, hm] at c3 mb
      rw [hb] at c1
      rw [ho] at c2
      have hmk' := Lib.hid (hmk.out k b o _ hb ho rfl)
      rw [hm] at hmk'
      have hM := Lib.hid hm
      have step := Lib.hid (show okB n ms bs k = true → ∀ j : Nat, j < k + 1 → okB n ms bs j = true from fun h j hj => by
        by_cases e : j < k
        · exact hJ.out j e
        · have : j = k := by omega
          subst this; exact h)
      have kI : (k : Int) < 16 := by omega
      obtain ⟨mb1, mb2⟩ := mb
      clear hb ho hm hJ
      cases b with
      | false =>
        have HQ := Lib.hid (step.out (by rw [hmk'.out]; rfl))
        clear hmk' step
        go_wp2
        go_round
        case rel => exact ⟨k + 1, by omega, by go_num, HQ⟩
        case measure => simp [intOf]; omega
      | true =>
        by_cases g1 : (k : Int) < 2 * n
        · have hnm' := hnm.out k (by omega) g1
          rw [hM.out] at hnm'
          have m16 : m < 16 := by omega
          have c4 := nO.cell (17 + m.toNat)
          rw [bcl_blob _ _ _ hl.out m.toNat (by rw [hk.out]; omega)] at c4
          obtain ⟨c, hcv⟩ : ∃ c, bs.getD m.toNat false = c := ⟨_, rfl⟩
          rw [hcv] at c4 hmk'
          clear hcv hnm'
          cases o with
          | false =>
            have HQ := Lib.hid (hno.out k hlt (by rw [hmk'.out]; simp))
            clear hmk' step
            obtain rfl : R = false := HQ.out
            go_wp2
            go_ret
            exact ⟨rfl, nB⟩
          | true =>
            cases c with
            | false =>
              have HQ := Lib.hid (hno.out k hlt (by rw [hmk'.out]; simp))
              clear hmk' step
              obtain rfl : R = false := HQ.out
              go_wp2
              go_ret
              exact ⟨rfl, nB⟩
            | true =>
              have HQ := Lib.hid (step.out (by rw [hmk'.out, decide_eq_true g1]; rfl))
              clear hmk' step
              go_wp2
              go_round
              case rel => exact ⟨k + 1, by omega, by go_num, HQ⟩
              case measure => simp [intOf]; omega
        · have HQ := Lib.hid (hno.out k hlt (by rw [hmk'.out, decide_eq_false g1]; rfl))
          clear hmk' step
          obtain rfl : R = false := HQ.out
          go_wp2
          go_ret
          exact ⟨rfl, nB⟩
    · have e : k = 16 := by omega
      subst e
      obtain rfl : R = true := hyes.out hJ.out
      go_wp2
      go_ret
      exact ⟨rfl, nB⟩
set_option maxRecDepth 100000 in
theorem isBS_bad (n : Int) (ms : List Int) (bs : List Bool) (hms : ms.length = 16) (hbs : bs.length = 16) (hb : Bytes ms) (hd : isD n ms = false) (w : World) :
    Calls Try.prog 43 #[.agg (bcl n ms bs)] w fun e w' => e = .returned (.bool false) ∧ Below w.heap.size w w' := by
  have hl := Lib.hid hms
  have hc := Lib.hid (fun w => l01Is_dec n ms hms hb w)
  rw [hd] at hc
  clear hms hb hd hbs
  go_enter Try.func43, Try.ntmps43
  go_wp2_with (first
    | (refine wpList_load_part rfl 28 _ rfl _ 0 rfl (dcells _ _) _ (Own.bdia (Own.new _ _ _) (hl.out)) Try.underlying28 rfl (row26 (d17 _ _ (hl.out))) ?_)
    | ((go_at_call 37; ((with_reducible refine (hc.out _).mono ?_); rintro e w1 ⟨rfl, hB1⟩))))
  go_ret
  exact ⟨rfl, ((Below.refl _ _).alloc (Nat.le_refl _) _).trans (hB1.mono (by simp))⟩
theorem isBS_any (n : Int) (ms : List Int) (bs : List Bool) (hms : ms.length = 16) (hbs : bs.length = 16) (hb : Bytes ms) (w : World) :
    Calls Try.prog 43 #[.agg (bcl n ms bs)] w fun e w' => e = .returned (.bool (isB n ms bs)) ∧ Below w.heap.size w w' := by
  cases hd : isD n ms with
  | true => exact isBS_ok n ms bs hms hbs hb hd w
  | false => rw [isB_d n ms bs hd]; exact isBS_bad n ms bs hms hbs hb hd w
set_option maxRecDepth 100000 in
theorem isBlS_any (n : Int) (ms : List Int) (bs : List Bool) (hms : ms.length = 16) (hbs : bs.length = 16) (hb : Bytes ms) (w : World) :
    Calls Try.prog 18 #[.agg (bcl n ms bs)] w fun e w' => e = .returned (.bool (isB n ms bs)) ∧ Below w.heap.size w w' := by
  have hl := Lib.hid hms
  have hk := Lib.hid hbs
  have hc := Lib.hid (fun w => isBS_any n ms bs hms hbs hb w)
  clear hms hb hbs
  go_enter Try.func18, Try.ntmps18
  go_wp2_with (first
    | (refine wpList_load_row rfl 38 _ rfl _ rfl 38 _ (0, 0) _ (Own.new _ _ _) Try.underlying38 rfl (rowB (b33 _ _ _ (hl.out) (hk.out))) ?_)
    | ((go_at_call 43; ((with_reducible refine (hc.out _).mono ?_); rintro e w1 ⟨rfl, hB1⟩))))
  go_ret
  exact ⟨rfl, ((Below.refl _ _).alloc (Nat.le_refl _) _).trans (hB1.mono (by simp))⟩
end Go.Proofs.Ytbegolbognkefaa
