/- MeanderOfOrder: the program's. -/
import Derived.Test.YtbpecjfiilkobaaEac
import Derived.Test.YtbpecjfiilkobaaRbw
namespace Go.Proofs.Ytbpecjfiilkobaa
open Go.RowKit
set_option linter.unusedVariables false
set_option linter.unusedSimpArgs false
/-- What MeanderOfOrder answers. -/
def mooV (xs : List Int) (U V : List Int) : Value :=
  if ordB xs = true then (if (crossB U || crossB V) = true then .tuple #[.string ⟨#[]⟩, .string ⟨#[]⟩, .int .i64 5] else .tuple #[.string (strT U xs.length), .string (strT V xs.length), .int .i64 0])
  else .tuple #[.string ⟨#[]⟩, .string ⟨#[]⟩, .int .i64 2]
theorem ordB_bd {xs : List Int} (h : ordB xs = true) : xs.length % 2 = 0 ∧ 2 ≤ xs.length ∧ xs.length ≤ 12 ∧ ∀ j, j < xs.length → 0 ≤ xs.getD j 0 ∧ xs.getD j 0 < xs.length := by
  unfold ordB at h
  rw [Bool.and_eq_true, Bool.and_eq_true] at h
  obtain ⟨⟨h1, _⟩, h3⟩ := h
  have h1 := of_decide_eq_true h1
  refine ⟨h1.1, h1.2.1, h1.2.2, fun j hj => ?_⟩
  refine eachN_lt _ _ _ h3 _ ?_
  rw [List.getD_eq_getElem?_getD, List.getElem?_eq_getElem hj]
  exact List.getElem_mem _
set_option maxRecDepth 100000 in
theorem moi_bad (p : Option Addr) (cap : Nat) (xs : List Int) (n : Nat) (hn : xs.length = n) (hx : n ≤ 1048576) (w : World) (hR : Rd w p xs) (h : ordB xs = false) :
    Calls Try.prog 6 #[.slice p n cap] w fun e w' => e = .returned (.tuple #[.string ⟨#[]⟩, .string ⟨#[]⟩, .int .i64 2]) ∧ Below w.heap.size w w' := by
  have hc := ordI_any p cap xs n hn hx w hR
  rw [h] at hc
  have hc := Lib.hid hc
  clear h hR hn
  go_enter Try.func6, Try.ntmps6
  go_wp2_with (first
    | (go_at_call 10; ((with_reducible refine (hc.out).mono ?_); rintro e w1 ⟨rfl, hB1⟩)))
  go_ret3
  exact ⟨rfl, hB1⟩
set_option maxRecDepth 100000 in
set_option maxHeartbeats 4000000 in
theorem moi_ok (p : Option Addr) (cap : Nat) (xs : List Int) (n : Nat) (hn : xs.length = n) (hx : n ≤ 1048576) (w : World) (hR : Rd w p xs) (h : ordB xs = true) (U V : List Int) (hU : uL xs (n / 2) = U) (hV : dL xs (n / 2) = V) (b1 b2 : Bool) (hb1 : crossB U = b1) (hb2 : crossB V = b2) :
    Calls Try.prog 6 #[.slice p n cap] w fun e w' => e = .returned (if (b1 || b2) = true then .tuple #[.string ⟨#[]⟩, .string ⟨#[]⟩, .int .i64 5] else .tuple #[.string (strT U n), .string (strT V n), .int .i64 0]) ∧ Below w.heap.size w w' := by
  have hc := ordI_any p cap xs n hn hx w hR
  rw [h] at hc
  have hc := Lib.hid hc
  have hbd := ordB_bd h
  rw [hn] at hbd
  obtain ⟨l1, l2, l3, hxb⟩ := hbd
  obtain ⟨a, rfl⟩ := rd_some hR (show 0 < xs.length by omega)
  have hXB := Lib.hid hxb
  have hCX := Lib.hid (show ∀ wx, Below w.heap.size w wx → ∀ j, j < n → wx.cell? (a.add j) = some (.int .i64 (xs.getD j 0)) from fun wx hb j hj => (hR.below hb).cell a rfl j (by omega))
  have hL := Lib.hid hn
  have hUU := Lib.hid hU
  have hVV := Lib.hid hV
  have lu : U.length = n := by rw [← hU, uL_len, hn]
  have lv : V.length = n := by rw [← hV, dL_len, hn]
  have hcu := fun g w hO => crossI_any U n lu l2 l3 g w hO
  have hcd := fun g w hO => crossI_any V n lv l2 l3 g w hO
  rw [hb1] at hcu
  rw [hb2] at hcd
  have hcu := Lib.hid hcu
  have hcd := Lib.hid hcd
  have htu := Lib.hid (fun g w hO => atxI_any U n lu l3 g w hO)
  have htd := Lib.hid (fun g w hO => atxI_any V n lv l3 g w hO)
  have hu0 := Lib.hid (show icells (uL xs 0) = icells (List.replicate n 0) by rw [uL, hn])
  have hd0 := Lib.hid (show icells (dL xs 0) = icells (List.replicate n 0) by rw [dL, hn])
  have hmk := makeA n hx
  have hn0 : ¬ n = 0 := by omega
  clear hn hR h hxb hU hV hb1 hb2
  go_enter Try.func6, Try.ntmps6
  go_wp2_with (first
    | (go_at_call 10; ((with_reducible refine (hc.out).mono ?_); rintro e w1 ⟨rfl, hB1⟩)))
  go_region
  · clear hmk hc
    have hU0 : Own ((w1.alloc (.cells (icells (List.replicate n 0)) 2)).alloc (.cells (icells (List.replicate n 0)) 2)).drew w1.heap.size (icells (uL xs 0)) 2 := by rw [hu0.out]; exact ((Own.at _ _ _ rfl).alloc _ : Own ((w1.alloc (.cells (icells (List.replicate n 0)) 2)).alloc (.cells (icells (List.replicate n 0)) 2)) w1.heap.size _ _)
    have hD0 : Own ((w1.alloc (.cells (icells (List.replicate n 0)) 2)).alloc (.cells (icells (List.replicate n 0)) 2)).drew (w1.heap.size + 1) (icells (dL xs 0)) 2 := by rw [hd0.out]; exact (Own.at _ _ _ (by simp) : Own ((w1.alloc (.cells (icells (List.replicate n 0)) 2)).alloc (.cells (icells (List.replicate n 0)) 2)) (w1.heap.size + 1) _ _)
    have hB0 : Below w.heap.size w ((w1.alloc (.cells (icells (List.replicate n 0)) 2)).alloc (.cells (icells (List.replicate n 0)) 2)).drew := ((hB1.alloc hB1.size _).alloc (by have := hB1.size; simp; omega) _).drew
    have hne : w1.heap.size ≠ (w1.heap.size + 1) := by omega
    have hgu : w.heap.size ≤ w1.heap.size := by have := hB1.size; omega
    have hgl : w.heap.size ≤ (w1.heap.size + 1) := by have := hB1.size; omega
    generalize ((w1.alloc (.cells (icells (List.replicate n 0)) 2)).alloc (.cells (icells (List.replicate n 0)) 2)).drew = wa at *
    clear hB1
    generalize w1.heap.size + 1 = g1 at *
    generalize w1.heap.size = g0 at *
    go_wp2
    go_loopw [8] (fun i wr => ∃ j : Nat, 2 * j ≤ n ∧ i = .int .i64 (2 * (j : Int)) ∧ Own wr g0 (icells (uL xs j)) 2 ∧ Own wr g1 (icells (dL xs j)) 2 ∧ Below w.heap.size w wr) (fun i _ => ((n : Int) - intOf i).toNat)
    case atStart => exact ⟨0, by omega, rfl, hU0, hD0, hB0⟩
    case round =>
      clear hU0 hD0 hB0
      obtain ⟨j, hj, rfl, hU, hD, hB⟩ := hrel
      by_cases hlt : 2 * j < n
      · have i1 : 2 * (j : Int) < (n : Int) := by omega
        have x1b := hXB.out (2 * j) (by omega)
        have x2b := hXB.out (2 * j + 1) (by omega)
        have x3b := hXB.out ((2 * j + 2) % n) (Nat.mod_lt _ (by omega))
        have r3 : (2 * (j : Int) + 2) % (n : Int) = (((2 * j + 2) % n : Nat) : Int) := by simp
        have q3l : (2 * j + 2) % n < n := Nat.mod_lt _ (by omega)
        have hsu := Lib.hid (show uL xs (j + 1) = joinL (uL xs j) (xs.getD (2 * j) 0) (xs.getD (2 * j + 1) 0) from rfl)
        have hsd := Lib.hid (show dL xs (j + 1) = joinL (dL xs j) (xs.getD (2 * j + 1) 0) (xs.getD ((2 * j + 2) % n) 0) from by rw [dL, hL.out])
        obtain ⟨q3, hq3⟩ : ∃ q, (2 * j + 2) % n = q := ⟨_, rfl⟩
        rw [hq3] at x3b r3 q3l hsd
        obtain ⟨q1, hq1⟩ : ∃ q, 2 * j = q := ⟨_, rfl⟩
        have hq1I : 2 * (j : Int) = (q1 : Int) := by omega
        rw [hq1I] at i1 r3
        have r3t : ((q1 : Int) + 2).tmod (n : Int) = (q3 : Int) := by rw [Int.tmod_eq_emod_of_nonneg (by omega)]; exact r3
        have HCX := Lib.hid hCX.out
        rw [hq1] at x1b x2b hsu hsd hlt
        obtain ⟨q2, hq2⟩ : ∃ q, q1 + 1 = q := ⟨_, rfl⟩
        have hq2I : (q1 : Int) + 1 = (q2 : Int) := by omega
        rw [hq2] at x2b hsu hsd
        obtain ⟨x1, hx1⟩ : ∃ x, xs.getD q1 0 = x := ⟨_, rfl⟩
        obtain ⟨x2, hx2⟩ : ∃ x, xs.getD q2 0 = x := ⟨_, rfl⟩
        obtain ⟨x3, hx3⟩ : ∃ x, xs.getD q3 0 = x := ⟨_, rfl⟩
        rw [hx1] at x1b hsu
        rw [hx2] at x2b hsu hsd
        rw [hx3] at x3b hsd
        have hul := Lib.hid (show (uL xs j).length = n by rw [uL_len]; exact hL.out)
        have hdl := Lib.hid (show (dL xs j).length = n by rw [dL_len]; exact hL.out)
        have HX1 := Lib.hid hx1
        have HX2 := Lib.hid hx2
        have HX3 := Lib.hid hx3
        have hq1E := Lib.hid hq1
        have hl1 : q2 < n := by omega
        rw [hq1I]
        clear hx1 hx2 hx3 hq3 hq2
        go_wp2
        refine wp_region_still_tail 10 (by kernel_rfl) (by kernel_rfl) ?_
        have hU' : Own { wr with drawn := wr.drawn + 1 } g0 (icells (uL xs j)) 2 := hU
        have hD' : Own { wr with drawn := wr.drawn + 1 } g1 (icells (dL xs j)) 2 := hD
        have hB' : Below w.heap.size w { wr with drawn := wr.drawn + 1 } := hB.trans ((Below.refl _ _).drew)
        clear hU hD hB
        generalize ({ wr with drawn := wr.drawn + 1 } : World) = we at *
        have c1 := HCX.out we hB' q1 hlt
        have c2 := HCX.out we hB' q2 hl1
        rw [HX1.out] at c1
        rw [HX2.out] at c2
        have j2 : (q2 : Int) < (n : Int) := by omega
        have hw1 : IntKind.i64.wrap (q2 : Int) = (q2 : Int) := IntWalk.i64_in _ (by omega)
        have hw2 : IntKind.i64.wrap ((q1 : Int) + 2) = (q1 : Int) + 2 := IntWalk.i64_in _ (by omega)
        have hw3 : IntKind.i64.wrap (q3 : Int) = (q3 : Int) := IntWalk.i64_in _ (by omega)
        have j3 : (q3 : Int) < (n : Int) := by omega
        simp only [List.take_succ_cons, List.take_zero, List.drop_succ_cons, List.drop_zero]
        still_step
        still_step
        still_step
        still_step
        still_step
        still_step
        still_step
        still_step
        still_step
        still_step
        refine wpStill_nil ?_
        clear c1 c2
        go_wp2_with (first
          | (go_at_call 11; ((with_reducible refine (joinA_any g0 n (uL xs j) hul.out x1 x2 we hU' x1b.1 x1b.2 x2b.1 x2b.2).mono ?_); rintro e w2 ⟨rfl, hU2, hN2⟩)))
        have hD2 := hD'.only hN2 hne.symm
        have hB2 := hB'.trans (hN2.below.mono hgu)
        rw [← hsu.out] at hU2
        clear hU' hD' hB' hN2
        refine wp_region_still_tail 13 (by kernel_rfl) (by kernel_rfl) ?_
        have hU' : Own { w2 with drawn := w2.drawn + 1 } g0 (icells (uL xs (j + 1))) 2 := hU2
        have hD' : Own { w2 with drawn := w2.drawn + 1 } g1 (icells (dL xs j)) 2 := hD2
        have hB' : Below w.heap.size w { w2 with drawn := w2.drawn + 1 } := hB2.trans ((Below.refl _ _).drew)
        clear hU2 hD2 hB2
        generalize ({ w2 with drawn := w2.drawn + 1 } : World) = wf at *
        have c2 := HCX.out wf hB' q2 hl1
        have c3 := HCX.out wf hB' q3 q3l
        rw [HX2.out] at c2
        rw [HX3.out] at c3
        simp only [List.take_succ_cons, List.take_zero, List.drop_succ_cons, List.drop_zero]
        still_step
        still_step
        still_step
        still_step
        still_step
        still_step
        still_step
        still_step
        still_step
        still_step
        still_step
        still_step
        still_step
        refine wpStill_nil ?_
        clear c2 c3
        go_wp2_with (first
          | (go_at_call 11; ((with_reducible refine (joinA_any g1 n (dL xs j) hdl.out x2 x3 wf hD' x2b.1 x2b.2 x3b.1 x3b.2).mono ?_); rintro e w3 ⟨rfl, hD2, hN3⟩)))
        have hU2 := hU'.only hN3 hne
        have hB2 := hB'.trans (hN3.below.mono hgl)
        rw [← hsd.out] at hD2
        clear hU' hD' hB' hN3
        go_wp2
        go_roundw
        case rel => exact ⟨j + 1, by have := hq1E.out; omega, by have := hq1E.out; go_num, hU2, hD2, hB2⟩
        case measure => simp [intOf]; omega
      · have hjn : j = n / 2 := by omega
        have i1 : ¬ 2 * (j : Int) < (n : Int) := by omega
        have HU := Lib.hid (show Own wr g0 (icells U) 2 by rw [← hUU.out, ← hjn]; exact hU)
        have HD := Lib.hid (show Own wr g1 (icells V) 2 by rw [← hVV.out, ← hjn]; exact hD)
        have XU := Lib.hid (fun wx (h : Below wr.heap.size wr wx) => hcu.out g0 wx (HU.out.below h HU.out.lt))
        have XD := Lib.hid (fun wx (h : Below wr.heap.size wr wx) => hcd.out g1 wx (HD.out.below h HD.out.lt))
        have TU := Lib.hid (fun wx (h : Below wr.heap.size wr wx) => htu.out g0 wx (HU.out.below h HU.out.lt))
        have TD := Lib.hid (fun wx (h : Below wr.heap.size wr wx) => htd.out g1 wx (HD.out.below h HD.out.lt))
        clear hU hD hj hlt
        cases b1 with
        | true =>
          go_wp2_with (first
            | (go_at_call 12; ((with_reducible refine (XU.out _ (Below.refl _ _)).mono ?_); rintro e w4 ⟨rfl, hB4⟩)))
          go_ret3
          exact ⟨rfl, hB.trans (hB4.mono hB.size)⟩
        | false =>
          cases b2 with
          | true =>
            go_wp2_with (first
              | (go_at_call 12; ((with_reducible refine (XU.out wr (Below.refl _ _)).mono ?_); rintro e w4 ⟨rfl, hB4⟩))
              | (go_at_call 12; ((with_reducible refine (XD.out w4 hB4).mono ?_); rintro e w5 ⟨rfl, hB5⟩)))
            go_ret3
            have b4 := hB.trans (hB4.mono hB.size)
            exact ⟨rfl, b4.trans (hB5.mono b4.size)⟩
          | false =>
            go_wp2_with (first
              | (go_at_call 12; ((with_reducible refine (XU.out wr (Below.refl _ _)).mono ?_); rintro e w4 ⟨rfl, hB4⟩))
              | (go_at_call 12; ((with_reducible refine (XD.out w4 hB4).mono ?_); rintro e w5 ⟨rfl, hB5⟩))
              | (go_at_call 13; ((with_reducible refine (TU.out w5 (hB4.trans (hB5.mono hB4.size))).mono ?_); rintro e w6 ⟨rfl, hB6⟩))
              | (go_at_call 13; ((with_reducible refine (TD.out w6 ((hB4.trans (hB5.mono hB4.size)).trans (hB6.mono (hB4.trans (hB5.mono hB4.size)).size))).mono ?_); rintro e w7 ⟨rfl, hB7⟩)))
            go_ret3
            have b4 := hB.trans (hB4.mono hB.size)
            have b5 := b4.trans (hB5.mono b4.size)
            have b6 := b5.trans (hB6.mono b5.size)
            exact ⟨rfl, b6.trans (hB7.mono b6.size)⟩
  · clear hmk hc
    have hU0 : Own ((w1.alloc (.cells (icells (List.replicate n 0)) 2)).alloc (.cells (icells (List.replicate n 0)) 2)).drew (w1.heap.size + 1) (icells (uL xs 0)) 2 := by rw [hu0.out]; exact (Own.at _ _ _ (by simp) : Own ((w1.alloc (.cells (icells (List.replicate n 0)) 2)).alloc (.cells (icells (List.replicate n 0)) 2)) (w1.heap.size + 1) _ _)
    have hD0 : Own ((w1.alloc (.cells (icells (List.replicate n 0)) 2)).alloc (.cells (icells (List.replicate n 0)) 2)).drew w1.heap.size (icells (dL xs 0)) 2 := by rw [hd0.out]; exact ((Own.at _ _ _ rfl).alloc _ : Own ((w1.alloc (.cells (icells (List.replicate n 0)) 2)).alloc (.cells (icells (List.replicate n 0)) 2)) w1.heap.size _ _)
    have hB0 : Below w.heap.size w ((w1.alloc (.cells (icells (List.replicate n 0)) 2)).alloc (.cells (icells (List.replicate n 0)) 2)).drew := ((hB1.alloc hB1.size _).alloc (by have := hB1.size; simp; omega) _).drew
    have hne : (w1.heap.size + 1) ≠ w1.heap.size := by omega
    have hgu : w.heap.size ≤ (w1.heap.size + 1) := by have := hB1.size; omega
    have hgl : w.heap.size ≤ w1.heap.size := by have := hB1.size; omega
    generalize ((w1.alloc (.cells (icells (List.replicate n 0)) 2)).alloc (.cells (icells (List.replicate n 0)) 2)).drew = wa at *
    clear hB1
    generalize w1.heap.size + 1 = g1 at *
    generalize w1.heap.size = g0 at *
    go_wp2
    go_loopw [8] (fun i wr => ∃ j : Nat, 2 * j ≤ n ∧ i = .int .i64 (2 * (j : Int)) ∧ Own wr g1 (icells (uL xs j)) 2 ∧ Own wr g0 (icells (dL xs j)) 2 ∧ Below w.heap.size w wr) (fun i _ => ((n : Int) - intOf i).toNat)
    case atStart => exact ⟨0, by omega, rfl, hU0, hD0, hB0⟩
    case round =>
      clear hU0 hD0 hB0
      obtain ⟨j, hj, rfl, hU, hD, hB⟩ := hrel
      by_cases hlt : 2 * j < n
      · have i1 : 2 * (j : Int) < (n : Int) := by omega
        have x1b := hXB.out (2 * j) (by omega)
        have x2b := hXB.out (2 * j + 1) (by omega)
        have x3b := hXB.out ((2 * j + 2) % n) (Nat.mod_lt _ (by omega))
        have r3 : (2 * (j : Int) + 2) % (n : Int) = (((2 * j + 2) % n : Nat) : Int) := by simp
        have q3l : (2 * j + 2) % n < n := Nat.mod_lt _ (by omega)
        have hsu := Lib.hid (show uL xs (j + 1) = joinL (uL xs j) (xs.getD (2 * j) 0) (xs.getD (2 * j + 1) 0) from rfl)
        have hsd := Lib.hid (show dL xs (j + 1) = joinL (dL xs j) (xs.getD (2 * j + 1) 0) (xs.getD ((2 * j + 2) % n) 0) from by rw [dL, hL.out])
        obtain ⟨q3, hq3⟩ : ∃ q, (2 * j + 2) % n = q := ⟨_, rfl⟩
        rw [hq3] at x3b r3 q3l hsd
        obtain ⟨q1, hq1⟩ : ∃ q, 2 * j = q := ⟨_, rfl⟩
        have hq1I : 2 * (j : Int) = (q1 : Int) := by omega
        rw [hq1I] at i1 r3
        have r3t : ((q1 : Int) + 2).tmod (n : Int) = (q3 : Int) := by rw [Int.tmod_eq_emod_of_nonneg (by omega)]; exact r3
        have HCX := Lib.hid hCX.out
        rw [hq1] at x1b x2b hsu hsd hlt
        obtain ⟨q2, hq2⟩ : ∃ q, q1 + 1 = q := ⟨_, rfl⟩
        have hq2I : (q1 : Int) + 1 = (q2 : Int) := by omega
        rw [hq2] at x2b hsu hsd
        obtain ⟨x1, hx1⟩ : ∃ x, xs.getD q1 0 = x := ⟨_, rfl⟩
        obtain ⟨x2, hx2⟩ : ∃ x, xs.getD q2 0 = x := ⟨_, rfl⟩
        obtain ⟨x3, hx3⟩ : ∃ x, xs.getD q3 0 = x := ⟨_, rfl⟩
        rw [hx1] at x1b hsu
        rw [hx2] at x2b hsu hsd
        rw [hx3] at x3b hsd
        have hul := Lib.hid (show (uL xs j).length = n by rw [uL_len]; exact hL.out)
        have hdl := Lib.hid (show (dL xs j).length = n by rw [dL_len]; exact hL.out)
        have HX1 := Lib.hid hx1
        have HX2 := Lib.hid hx2
        have HX3 := Lib.hid hx3
        have hq1E := Lib.hid hq1
        have hl1 : q2 < n := by omega
        rw [hq1I]
        clear hx1 hx2 hx3 hq3 hq2
        go_wp2
        refine wp_region_still_tail 10 (by kernel_rfl) (by kernel_rfl) ?_
        have hU' : Own { wr with drawn := wr.drawn + 1 } g1 (icells (uL xs j)) 2 := hU
        have hD' : Own { wr with drawn := wr.drawn + 1 } g0 (icells (dL xs j)) 2 := hD
        have hB' : Below w.heap.size w { wr with drawn := wr.drawn + 1 } := hB.trans ((Below.refl _ _).drew)
        clear hU hD hB
        generalize ({ wr with drawn := wr.drawn + 1 } : World) = we at *
        have c1 := HCX.out we hB' q1 hlt
        have c2 := HCX.out we hB' q2 hl1
        rw [HX1.out] at c1
        rw [HX2.out] at c2
        have j2 : (q2 : Int) < (n : Int) := by omega
        have hw1 : IntKind.i64.wrap (q2 : Int) = (q2 : Int) := IntWalk.i64_in _ (by omega)
        have hw2 : IntKind.i64.wrap ((q1 : Int) + 2) = (q1 : Int) + 2 := IntWalk.i64_in _ (by omega)
        have hw3 : IntKind.i64.wrap (q3 : Int) = (q3 : Int) := IntWalk.i64_in _ (by omega)
        have j3 : (q3 : Int) < (n : Int) := by omega
        simp only [List.take_succ_cons, List.take_zero, List.drop_succ_cons, List.drop_zero]
        still_step
        still_step
        still_step
        still_step
        still_step
        still_step
        still_step
        still_step
        still_step
        still_step
        refine wpStill_nil ?_
        clear c1 c2
        go_wp2_with (first
          | (go_at_call 11; ((with_reducible refine (joinA_any g1 n (uL xs j) hul.out x1 x2 we hU' x1b.1 x1b.2 x2b.1 x2b.2).mono ?_); rintro e w2 ⟨rfl, hU2, hN2⟩)))
        have hD2 := hD'.only hN2 hne.symm
        have hB2 := hB'.trans (hN2.below.mono hgu)
        rw [← hsu.out] at hU2
        clear hU' hD' hB' hN2
        refine wp_region_still_tail 13 (by kernel_rfl) (by kernel_rfl) ?_
        have hU' : Own { w2 with drawn := w2.drawn + 1 } g1 (icells (uL xs (j + 1))) 2 := hU2
        have hD' : Own { w2 with drawn := w2.drawn + 1 } g0 (icells (dL xs j)) 2 := hD2
        have hB' : Below w.heap.size w { w2 with drawn := w2.drawn + 1 } := hB2.trans ((Below.refl _ _).drew)
        clear hU2 hD2 hB2
        generalize ({ w2 with drawn := w2.drawn + 1 } : World) = wf at *
        have c2 := HCX.out wf hB' q2 hl1
        have c3 := HCX.out wf hB' q3 q3l
        rw [HX2.out] at c2
        rw [HX3.out] at c3
        simp only [List.take_succ_cons, List.take_zero, List.drop_succ_cons, List.drop_zero]
        still_step
        still_step
        still_step
        still_step
        still_step
        still_step
        still_step
        still_step
        still_step
        still_step
        still_step
        still_step
        still_step
        refine wpStill_nil ?_
        clear c2 c3
        go_wp2_with (first
          | (go_at_call 11; ((with_reducible refine (joinA_any g0 n (dL xs j) hdl.out x2 x3 wf hD' x2b.1 x2b.2 x3b.1 x3b.2).mono ?_); rintro e w3 ⟨rfl, hD2, hN3⟩)))
        have hU2 := hU'.only hN3 hne
        have hB2 := hB'.trans (hN3.below.mono hgl)
        rw [← hsd.out] at hD2
        clear hU' hD' hB' hN3
        go_wp2
        go_roundw
        case rel => exact ⟨j + 1, by have := hq1E.out; omega, by have := hq1E.out; go_num, hU2, hD2, hB2⟩
        case measure => simp [intOf]; omega
      · have hjn : j = n / 2 := by omega
        have i1 : ¬ 2 * (j : Int) < (n : Int) := by omega
        have HU := Lib.hid (show Own wr g1 (icells U) 2 by rw [← hUU.out, ← hjn]; exact hU)
        have HD := Lib.hid (show Own wr g0 (icells V) 2 by rw [← hVV.out, ← hjn]; exact hD)
        have XU := Lib.hid (fun wx (h : Below wr.heap.size wr wx) => hcu.out g1 wx (HU.out.below h HU.out.lt))
        have XD := Lib.hid (fun wx (h : Below wr.heap.size wr wx) => hcd.out g0 wx (HD.out.below h HD.out.lt))
        have TU := Lib.hid (fun wx (h : Below wr.heap.size wr wx) => htu.out g1 wx (HU.out.below h HU.out.lt))
        have TD := Lib.hid (fun wx (h : Below wr.heap.size wr wx) => htd.out g0 wx (HD.out.below h HD.out.lt))
        clear hU hD hj hlt
        cases b1 with
        | true =>
          go_wp2_with (first
            | (go_at_call 12; ((with_reducible refine (XU.out _ (Below.refl _ _)).mono ?_); rintro e w4 ⟨rfl, hB4⟩)))
          go_ret3
          exact ⟨rfl, hB.trans (hB4.mono hB.size)⟩
        | false =>
          cases b2 with
          | true =>
            go_wp2_with (first
              | (go_at_call 12; ((with_reducible refine (XU.out wr (Below.refl _ _)).mono ?_); rintro e w4 ⟨rfl, hB4⟩))
              | (go_at_call 12; ((with_reducible refine (XD.out w4 hB4).mono ?_); rintro e w5 ⟨rfl, hB5⟩)))
            go_ret3
            have b4 := hB.trans (hB4.mono hB.size)
            exact ⟨rfl, b4.trans (hB5.mono b4.size)⟩
          | false =>
            go_wp2_with (first
              | (go_at_call 12; ((with_reducible refine (XU.out wr (Below.refl _ _)).mono ?_); rintro e w4 ⟨rfl, hB4⟩))
              | (go_at_call 12; ((with_reducible refine (XD.out w4 hB4).mono ?_); rintro e w5 ⟨rfl, hB5⟩))
              | (go_at_call 13; ((with_reducible refine (TU.out w5 (hB4.trans (hB5.mono hB4.size))).mono ?_); rintro e w6 ⟨rfl, hB6⟩))
              | (go_at_call 13; ((with_reducible refine (TD.out w6 ((hB4.trans (hB5.mono hB4.size)).trans (hB6.mono (hB4.trans (hB5.mono hB4.size)).size))).mono ?_); rintro e w7 ⟨rfl, hB7⟩)))
            go_ret3
            have b4 := hB.trans (hB4.mono hB.size)
            have b5 := b4.trans (hB5.mono b4.size)
            have b6 := b5.trans (hB6.mono b5.size)
            exact ⟨rfl, b6.trans (hB7.mono b6.size)⟩
end Go.Proofs.Ytbpecjfiilkobaa
