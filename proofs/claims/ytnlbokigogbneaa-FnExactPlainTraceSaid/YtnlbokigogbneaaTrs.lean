/- WeightedTrace and PlainTrace: the model, and the laws. -/
import Derived.Test.YtnlbokigogbneaaTrq
import Derived.Test.YtnlbokigogbneaaSen
namespace Go.Proofs.Ytnlbokigogbneaa
open Go.RowKit
set_option linter.unusedVariables false
set_option maxRecDepth 100000 in
set_option maxHeartbeats 4000000 in
theorem traS_any (p q : Int) (hbs : baseB p q = true) (n : Nat) (hn : n < 7) (ms : List Int) (hms : ms.length = 16) (hb : Bytes ms) (hd : IsS n ms) (wd : Bool) (w : World) :
    Calls Try.prog 42 #[.int .i64 p, .int .i64 q, .agg (dcells n ms), .bool wd] w fun e w' => e = .returned (.int .i64 (trS p (fun u => if wd then ow p (p - rcp p q) (p - q) (entN p q (rcp p q) n ms u u) u n n else entN p q (rcp p q) n ms u u) (2 ^ n))) ∧ Below w.heap.size w w' := by
  have hl := Lib.hid hms
  obtain ⟨hpr, hp, hp2, a1, a2⟩ := baseB_t hbs
  have hrr := rcp_pos p q hpr a1 a2
  have hin := Lib.hid (fun w => (invS_any p q w hpr a1 a2).mono fun e w' h => (show e = .returned (.int .i64 (rcp p q)) ∧ w' = w from ⟨h.1, h.2.symm⟩))
  have h64 := pow64 n hn
  have hn1 : 1 ≤ n := by have := hd.1.1; omega
  have hen := Lib.hid (show ∀ u : Nat, u < 2 ^ n → ∀ w, Calls Try.prog 30 #[.int .i64 p, .int .i64 q, .int .i64 (rcp p q), .agg (dcells n ms), .int .i64 u, .int .i64 u] w fun e w' => e = .returned (.int .i64 (entN p q (rcp p q) n ms u u)) ∧ Below w.heap.size w w' from fun u hu w => entS_any p q (rcp p q) hp hp2 (by omega) (by omega) (by omega) (by omega) n ms hms hb hd u u (by omega) (by omega) (by omega) (by omega) w)
  have hbd := Lib.hid (show ∀ u : Nat, 0 ≤ entN p q (rcp p q) n ms u u ∧ entN p q (rcp p q) n ms u u < p from fun u => ent_bd p q (rcp p q) n ms u u hp)
  obtain ⟨E, hE⟩ : ∃ E : Nat → Int, (fun u : Nat => entN p q (rcp p q) n ms u u) = E := ⟨_, rfl⟩
  have hE' : ∀ u : Nat, entN p q (rcp p q) n ms u u = E u := fun u => by rw [← hE]
  simp only [hE'] at hen hbd ⊢
  obtain ⟨r, hrq⟩ : ∃ r, rcp p q = r := ⟨_, rfl⟩
  rw [hrq] at hen hin hrr ⊢
  obtain ⟨O, hO⟩ : ∃ O : Nat → Int, (fun u : Nat => if wd then ow p (p - r) (p - q) (E u) u n n else E u) = O := ⟨_, rfl⟩
  rw [hO]
  have hO1 := Lib.hid (show wd = true → ∀ u, O u = ow p (p - r) (p - q) (E u) u n n from fun h u => by rw [← hO, h]; rfl)
  have hO2 := Lib.hid (show wd = false → ∀ u, O u = E u from fun h u => by rw [← hO, h]; rfl)
  have hT := Lib.hid (trS_bd p O hp)
  have hob := Lib.hid (fun u : Nat => ow_bd p (p - r) (p - q) (E u) u n hp (hbd.out u).1 (hbd.out u).2)
  have hpw : (2 : Int) ^ (n : Int).toNat = ((2 ^ n : Nat) : Int) := by rw [Int.toNat_natCast]; push_cast; rfl
  obtain ⟨M, hM⟩ : ∃ M : Nat, 2 ^ n = M := ⟨_, rfl⟩
  rw [hM] at hen h64 hpw ⊢
  have hle := Lib.hid (show ∀ (u : Nat), u ≤ 64 → ∀ i : Nat, i < n → ∀ w, Calls Try.prog 47 #[.int .i64 u, .int .i64 n, .int .i64 i] w fun e w' => e = .returned (.int .i64 (ltr u ((n - 1 - i : Nat) : Int))) ∧ w' = w from fun u hu i hi w => letS_any u n i (n - 1 - i) (by omega) (by omega) (by omega) (by omega) (by omega) (by omega) w)
  have c0 := dcells_zero (n : Int) ms
  have e5 : (p == 0) = false := by simp; omega
  clear hms hb hd hE hE' hO hM hpr hbs hrq
  go_enter Try.func42, Try.ntmps42
  go_wp2_with (first
    | (go_at_call 31; ((with_reducible refine (hin.out _).mono ?_); rintro e w1 ⟨rfl, hw1⟩)))
  subst hw1
  have nO : Own (w.alloc (.cells (dcells n ms) 29)) w.heap.size (dcells n ms) 29 := Own.new _ _ _
  have nB : Below w.heap.size w (w.alloc (.cells (dcells n ms) 29)) := (Below.refl _ _).alloc (Nat.le_refl _) _
  have b2 := two_bd (n : Int) (by omega) (by omega)
  have s1 : IntKind.i64.wrap (2 ^ (n : Int).toNat) = (M : Int) := by rw [hpw]; exact IntWalk.i64_in _ (by omega)
  have s2 : IntKind.i64.wrap (1 * 2 ^ (n : Int).toNat) = (M : Int) := by rw [Int.one_mul]; exact s1
  have s3 : (Op.shift .shl .i64 1 .u64 (n : Int) : Sem Value) = pure (.int .i64 (M : Int)) := by rw [shl_one (n : Int) .u64 (by omega) (by omega), hpw]
  have s4 : IntKind.i64.wrap (M : Int) = (M : Int) := IntWalk.i64_in _ (by omega)
  rw [Int.toNat_natCast] at s1 s2 hpw
  go_loopw [9, 11] (fun t i wr => ∃ k : Nat, k ≤ M ∧ i = .int .i64 k ∧ t = .int .i64 (trS p O k) ∧ Own wr w.heap.size (dcells n ms) 29 ∧ Below w.heap.size w wr) (fun _ i _ => (M - intOf i).toNat)
  case atStart => exact ⟨0, by omega, rfl, rfl, nO, nB⟩
  case round =>
    clear nO nB
    obtain ⟨k, hk, rfl, rfl, hO, hB⟩ := hrel
    have t0 := hT.out k
    have d0 := (hO.cell 0).trans c0
    by_cases hlt : k < M
    · have t1 := hT.out (k + 1)
      have hek := Lib.hid (hen.out k hlt)
      have hbk := hbd.out k
      have hobk := Lib.hid (hob.out k)
      have hlk := Lib.hid (hle.out k (by omega))
      have hst : trS p O (k + 1) = (trS p O k + O k) % p := rfl
      have hO1k := fun h => hO1.out h k
      have hO2k := fun h => hO2.out h k
      obtain ⟨T, hTk⟩ : ∃ T, trS p O k = T := ⟨_, rfl⟩
      rw [hTk] at hst t0 ⊢
      obtain ⟨T', hTk'⟩ : ∃ T', trS p O (k + 1) = T' := ⟨_, rfl⟩
      rw [hTk'] at hst t1
      have hTT := Lib.hid hTk'
      have kI : (k : Int) < (M : Int) := by omega
      cases wd with
      | false =>
        have hOk := hO2k rfl
        rw [hOk] at hst
        obtain ⟨ek, hekk⟩ : ∃ ek, E k = ek := ⟨_, rfl⟩
        rw [hekk] at hst hek hbk
        have m3 : (T + ek).tmod p = T' := by rw [hst]; exact Int.tmod_eq_emod_of_nonneg (by omega)
        obtain ⟨hbk0, hbk1⟩ := hbk
        have hls : ∀ wx, Below wr.heap.size wr wx → Own wx w.heap.size (dcells n ms) 29 := fun wx h => hO.below h hO.lt
        clear hekk hOk hO1k hO2k hTk hTk' hst hlk hobk hen hbd hob hO1 hO2 hT
        go_wp2_with (first
          | (refine wpList_load_row rfl 29 _ rfl _ rfl 29 _ (0, 0) _ (hO) Try.underlying29 rfl (row26 (d17 _ _ (hl.out))) ?_)
          | (go_at_call 30; ((with_reducible refine (hek.out _).mono ?_); rintro e w6 ⟨rfl, hB6⟩); have hO6 := hls _ hB6; have d6 := (hO6.cell 0).trans c0; have b6 : Below w.heap.size w w6 := hB.trans (hB6.mono hB.size)))
        go_loopw [12, 13] (fun x i wj => x = .int .i64 ek ∧ i = .int .i64 0 ∧ wj = w6) (fun _ _ _ => 0)
        case atStart => exact ⟨rfl, rfl, rfl⟩
        case round =>
          obtain ⟨rfl, rfl, rfl⟩ := hrel
          go_wp2
          go_roundw
          case rel => exact ⟨k + 1, by omega, by go_num, by rw [hTT.out], hO6, b6⟩
          case measure => simp [intOf]; omega
      | true =>
        have hOk := Lib.hid (hO1k rfl)
        have how0 : ow p (p - r) (p - q) (E k) k n 0 = E k := rfl
        have hows : ∀ i, ow p (p - r) (p - q) (E k) k n (i + 1) = ow p (p - r) (p - q) (E k) k n i * (if ltr (k : Int) ((n - 1 - i : Nat) : Int) = 1 then p - q else p - r) % p := fun i => rfl
        obtain ⟨F, hF⟩ : ∃ F : Nat → Int, (fun i => ow p (p - r) (p - q) (E k) k n i) = F := ⟨_, rfl⟩
        have hF' : ∀ i, ow p (p - r) (p - q) (E k) k n i = F i := fun i => by rw [← hF]
        simp only [hF'] at hOk hobk how0 hows
        have hows' := Lib.hid hows
        obtain ⟨ek, hekk⟩ : ∃ ek, E k = ek := ⟨_, rfl⟩
        rw [hekk] at hek hbk how0
        have how' := Lib.hid how0
        have hst' := Lib.hid hst
        have hls : ∀ wx, Below wr.heap.size wr wx → Own wx w.heap.size (dcells n ms) 29 := fun wx h => hO.below h hO.lt
        clear hekk hO1k hO2k hTk hTk' hst hen hbd hob hO1 hO2 hT hF hF' how0 hows
        go_wp2_with (first
          | (refine wpList_load_row rfl 29 _ rfl _ rfl 29 _ (0, 0) _ (hO) Try.underlying29 rfl (row26 (d17 _ _ (hl.out))) ?_)
          | (go_at_call 30; ((with_reducible refine (hek.out _).mono ?_); rintro e w6 ⟨rfl, hB6⟩); have hO6 := hls _ hB6; have b6 : Below w.heap.size w w6 := hB.trans (hB6.mono hB.size)))
        have d6 := (hO6.cell 0).trans c0
        go_loopw [12, 13] (fun x i wj => ∃ j : Nat, j ≤ n ∧ i = .int .i64 j ∧ x = .int .i64 (F j) ∧ wj = w6) (fun _ i _ => (n - intOf i).toNat)
        case atStart => exact ⟨0, by omega, rfl, by rw [how'.out], rfl⟩
        case round =>
          clear d0
          obtain ⟨j, hj, rfl, rfl, rfl⟩ := hrel
          have f0 := hobk.out j
          by_cases hjn : j < n
          · have hlj := Lib.hid (hlk.out j hjn)
            have hb2 := ltr_bit k ((n - 1 - j : Nat) : Int)
            have hs := Lib.hid (hows'.out j)
            have jI : (j : Int) < (n : Int) := by omega
            obtain ⟨l, hll⟩ : ∃ l, ltr (k : Int) ((n - 1 - j : Nat) : Int) = l := ⟨_, rfl⟩
            rw [hll] at hlj hb2 hs
            obtain ⟨fj, hfj⟩ : ∃ x, F j = x := ⟨_, rfl⟩
            rw [hfj] at hs f0 ⊢
            have mq := mul_bd fj (p - q) f0.1 (by omega) (by omega) (by omega)
            have mr := mul_bd fj (p - r) f0.1 (by omega) (by omega) (by omega)
            have nq := Int.mul_nonneg f0.1 (show 0 ≤ p - q by omega)
            have nr := Int.mul_nonneg f0.1 (show 0 ≤ p - r by omega)
            have rq := rem_of fj (p - q) p (by omega) hp2 nq
            have rr := rem_of fj (p - r) p (by omega) hp2 nr
            obtain ⟨rq1, rq2, rq3⟩ := rq
            obtain ⟨rr1, rr2, rr3⟩ := rr
            obtain ⟨mq1, mq2⟩ := mq
            obtain ⟨mr1, mr2⟩ := mr
            obtain ⟨Lq, hLq⟩ : ∃ x, p - q = x := ⟨_, rfl⟩
            obtain ⟨Lr, hLr⟩ : ∃ x, p - r = x := ⟨_, rfl⟩
            have lq : IntKind.i64.wrap (p - q) = Lq := by rw [← hLq]; exact IntWalk.i64_in _ (by omega)
            have lr : IntKind.i64.wrap (p - r) = Lr := by rw [← hLr]; exact IntWalk.i64_in _ (by omega)
            rw [hLq] at rq1 rq2 rq3 mq1 mq2 hs nq
            rw [hLr] at rr1 rr2 rr3 mr1 mr2 hs nr
            clear hll hfj hO hlk
            rcases hb2 with rfl | rfl
            · have hs' := Lib.hid (show F (j + 1) = fj * Lr % p by rw [hs.out, if_neg (by omega)])
              clear hs rq1 rq2 rq3 mq1 mq2 nq
              go_wp2_with (first
                | (go_at_call 47; ((with_reducible refine (hlj.out _).mono ?_); rintro e7 w7 ⟨rfl, rfl⟩)))
              go_roundw
              case rel => exact ⟨j + 1, by omega, by go_num, by rw [hs'.out], trivial⟩
              case measure => simp [intOf]; omega
            · have hs' := Lib.hid (show F (j + 1) = fj * Lq % p by rw [hs.out, if_pos rfl])
              clear hs rr1 rr2 rr3 mr1 mr2 nr
              go_wp2_with (first
                | (go_at_call 47; ((with_reducible refine (hlj.out _).mono ?_); rintro e7 w7 ⟨rfl, rfl⟩)))
              go_roundw
              case rel => exact ⟨j + 1, by omega, by go_num, by rw [hs'.out], trivial⟩
              case measure => simp [intOf]; omega
          · have e : j = n := by omega
            subst e
            have hst := hst'.out
            rw [hOk.out] at hst
            obtain ⟨fj, hfj⟩ : ∃ x, F j = x := ⟨_, rfl⟩
            rw [hfj] at hst f0 ⊢
            have m3 : (T + fj).tmod p = T' := by rw [hst]; exact Int.tmod_eq_emod_of_nonneg (by omega)
            clear hst hfj hO
            go_wp2
            go_roundw
            case rel => exact ⟨k + 1, by omega, by go_num, by rw [hTT.out], hO6, b6⟩
            case measure => simp [intOf]; omega
    · have e : k = M := by omega
      subst e
      clear hO
      go_wp2
      go_ret
      exact ⟨rfl, hB⟩
set_option maxRecDepth 100000 in
set_option maxHeartbeats 1000000 in
theorem wtS_code (p q n : Int) (ms : List Int) (hms : ms.length = 16) (hb : Bytes ms) (w : World) (hr : -9223372036854775808 ≤ p ∧ p ≤ 9223372036854775807) (hc : codN p q n ms 6 ≠ 0) :
    Calls Try.prog 19 #[.int .i64 p, .int .i64 q, .agg (dcells n ms)] w fun e w' => e = .returned (.tuple #[.int .i64 0, .int .i64 (codN p q n ms 6)]) ∧ Below w.heap.size w w' := by
  have hl := Lib.hid hms
  have hi := Lib.hid (fun w => codS_any p q n ms 6 hms hb w hr)
  obtain ⟨c, hcc⟩ : ∃ c, codN p q n ms 6 = c := ⟨_, rfl⟩
  rw [hcc] at hc hi ⊢
  clear hb hcc
  go_enter Try.func19, Try.ntmps19
  go_wp2_with (first
    | (refine wpList_load_row rfl 29 _ rfl _ rfl 29 _ (0, 0) _ (Own.new _ _ _) Try.underlying29 rfl (row26 (d17 _ _ (hl.out))) ?_)
    | (go_at_call 28; ((with_reducible refine (hi.out _).mono ?_); rintro e w1 ⟨rfl, hB1⟩)))
  go_ret2
  exact ⟨rfl, ((Below.refl _ _).alloc (Nat.le_refl _) _).trans (hB1.mono (by simp))⟩
set_option maxRecDepth 100000 in
set_option maxHeartbeats 1000000 in
theorem wtS_ok (p q n : Int) (ms : List Int) (hms : ms.length = 16) (hb : Bytes ms) (w : World) (hr : -9223372036854775808 ≤ p ∧ p ≤ 9223372036854775807) (hc : codN p q n ms 6 = 0) :
    Calls Try.prog 19 #[.int .i64 p, .int .i64 q, .agg (dcells n ms)] w fun e w' => e = .returned (.tuple #[.int .i64 (wtN p q n ms), .int .i64 0]) ∧ Below w.heap.size w w' := by
  have hl := Lib.hid hms
  obtain ⟨hd, hbs, h6⟩ := codN_0 hc
  have hS := (isD_iff n ms hms hb).1 hd
  obtain ⟨h1, h8⟩ := hS.1
  obtain ⟨hpr, hp, hp2, a1, a2⟩ := baseB_t hbs
  have hi := Lib.hid (fun w => codS_any p q n ms 6 hms hb w hr)
  rw [hc] at hi
  unfold wtN
  obtain ⟨N, rfl⟩ : ∃ N : Nat, n = N := ⟨n.toNat, by omega⟩
  have he := Lib.hid (fun w => traS_any p q hbs N (by omega) ms hms hb hS true w)
  rw [Int.toNat_natCast]
  rw [tr_same p (-rcp p q) (-q) (p - rcp p q) (p - q) N (by omega) _ hp (by rw [Int.sub_eq_add_neg, Int.add_comm, Int.add_emod_right]) (by rw [Int.sub_eq_add_neg, Int.add_comm, Int.add_emod_right]) _ (Nat.le_refl _)]
  simp only [if_true] at he
  obtain ⟨V, hV⟩ : ∃ V, trS p (fun u => ow p (p - rcp p q) (p - q) (entN p q (rcp p q) N ms u u) u N N) (2 ^ N) = V := ⟨_, rfl⟩
  rw [hV] at he ⊢
  clear hV
  clear hb hc hd hS hbs hpr
  go_enter Try.func19, Try.ntmps19
  go_wp2_with (first
    | (refine wpList_load_row rfl 29 _ rfl _ rfl 29 _ (0, 0) _ (Own.new _ _ _) Try.underlying29 rfl (row26 (d17 _ _ (hl.out))) ?_)
    | (go_at_call 28; ((with_reducible refine (hi.out _).mono ?_); rintro e w1 ⟨rfl, hB1⟩))
    | (refine wpList_load_row rfl 29 _ rfl _ rfl 29 _ (0, 0) _ ((Own.new w _ _).below hB1 (by simp)) Try.underlying29 rfl (row26 (d17 _ _ (hl.out))) ?_)
    | (go_at_call 42; ((with_reducible refine (he.out _).mono ?_); rintro e w2 ⟨rfl, hB2⟩)))
  go_ret2
  have b1 : Below w.heap.size w w1 := ((Below.refl _ _).alloc (Nat.le_refl _) _).trans (hB1.mono (by simp))
  exact ⟨rfl, b1.trans (hB2.mono b1.size)⟩
theorem wt_both (p q n : Int) (ms : List Int) (hms : ms.length = 16) (hb : Bytes ms) (hr : -9223372036854775808 ≤ p ∧ p ≤ 9223372036854775807) : ∃ x y : Int, (∀ w, Calls Try.prog 19 #[.int .i64 p, .int .i64 q, .agg (dcells n ms)] w fun e w' => e = .returned (.tuple #[.int .i64 x, .int .i64 y]) ∧ Below w.heap.size w w')
    ∧ (∀ w, Calls Try.prog 20 #[.int .i64 p, .int .i64 q, .agg (dcells n ms)] w fun e w' => e = .returned (.tuple #[.int .i64 x, .int .i64 y]) ∧ Below w.heap.size w w') := by
  by_cases hc : codN p q n ms 6 = 0
  · exact ⟨_, _, fun w => wtS_ok p q n ms hms hb w hr hc, fun w => wtI_ok p q n ms hms hb w hc⟩
  · exact ⟨_, _, fun w => wtS_code p q n ms hms hb w hr hc, fun w => wtI_code p q n ms hms hb w hc⟩
set_option maxRecDepth 100000 in
theorem wtr_law (p q n : Int) (ms : List Int) (hms : ms.length = 16) (hb : Bytes ms) (w : World) (hr : -9223372036854775808 ≤ p ∧ p ≤ 9223372036854775807) :
    Calls Try.prog 6 #[.int .i64 p, .int .i64 q, .agg (dcells n ms)] w fun e w' => e = .returned (.bool true) ∧ Below w.heap.size w w' := by
  obtain ⟨x, y, hS0, hI0⟩ := wt_both p q n ms hms hb hr
  have hl := Lib.hid hms
  have hS' := Lib.hid hS0
  have hI' := Lib.hid hI0
  clear hms hb hS0 hI0 hr
  go_enter Try.func6, Try.ntmps6
  go_wp2_with (first
    | (refine wpList_load_row rfl 27 _ rfl _ rfl 27 _ (0, 0) _ (Own.new _ _ _) Try.underlying27 rfl (row50 (d17 _ _ (hl.out))) ?_)
    | (go_at_call 19; ((with_reducible refine (hS'.out _).mono ?_); rintro e w2 ⟨rfl, hB2⟩))
    | (go_at_call 20; ((with_reducible refine (hI'.out _).mono ?_); rintro e w4 ⟨rfl, hB4⟩))
    | (go_at_call 11; ((with_reducible refine (toD_any n ms hl.out w2).mono ?_); rintro e w3 ⟨rfl, hB3⟩))
    | (go_at_call 11; ((with_reducible refine (toD_any n ms hl.out _).mono ?_); rintro e w1 ⟨rfl, hB1⟩))
    | (refine wpList_load_row rfl 27 _ rfl _ rfl 27 _ (0, 0) _ (((Own.new _ _ _).below hB1 (by simp)).below hB2 (Nat.lt_of_lt_of_le (by simp) hB1.size)) Try.underlying27 rfl (row50 (d17 _ _ (hl.out))) ?_))
  go_ret
  have b0 : Below w.heap.size w (w.alloc (.cells (dcells n ms) 27)) := (Below.refl _ _).alloc (Nat.le_refl _) _
  have b1 := b0.trans (hB1.mono b0.size)
  have b2 := b1.trans (hB2.mono b1.size)
  have b3 := b2.trans (hB3.mono b2.size)
  exact ⟨rfl, b3.trans (hB4.mono b3.size)⟩
set_option maxRecDepth 100000 in
set_option maxHeartbeats 1000000 in
theorem ptS_code (p q n : Int) (ms : List Int) (hms : ms.length = 16) (hb : Bytes ms) (w : World) (hr : -9223372036854775808 ≤ p ∧ p ≤ 9223372036854775807) (hc : codN p q n ms 6 ≠ 0) :
    Calls Try.prog 21 #[.int .i64 p, .int .i64 q, .agg (dcells n ms)] w fun e w' => e = .returned (.tuple #[.int .i64 0, .int .i64 (codN p q n ms 6)]) ∧ Below w.heap.size w w' := by
  have hl := Lib.hid hms
  have hi := Lib.hid (fun w => codS_any p q n ms 6 hms hb w hr)
  obtain ⟨c, hcc⟩ : ∃ c, codN p q n ms 6 = c := ⟨_, rfl⟩
  rw [hcc] at hc hi ⊢
  clear hb hcc
  go_enter Try.func21, Try.ntmps21
  go_wp2_with (first
    | (refine wpList_load_row rfl 29 _ rfl _ rfl 29 _ (0, 0) _ (Own.new _ _ _) Try.underlying29 rfl (row26 (d17 _ _ (hl.out))) ?_)
    | (go_at_call 28; ((with_reducible refine (hi.out _).mono ?_); rintro e w1 ⟨rfl, hB1⟩)))
  go_ret2
  exact ⟨rfl, ((Below.refl _ _).alloc (Nat.le_refl _) _).trans (hB1.mono (by simp))⟩
set_option maxRecDepth 100000 in
set_option maxHeartbeats 1000000 in
theorem ptS_ok (p q n : Int) (ms : List Int) (hms : ms.length = 16) (hb : Bytes ms) (w : World) (hr : -9223372036854775808 ≤ p ∧ p ≤ 9223372036854775807) (hc : codN p q n ms 6 = 0) :
    Calls Try.prog 21 #[.int .i64 p, .int .i64 q, .agg (dcells n ms)] w fun e w' => e = .returned (.tuple #[.int .i64 (ptN p q n ms), .int .i64 0]) ∧ Below w.heap.size w w' := by
  have hl := Lib.hid hms
  obtain ⟨hd, hbs, h6⟩ := codN_0 hc
  have hS := (isD_iff n ms hms hb).1 hd
  obtain ⟨h1, h8⟩ := hS.1
  obtain ⟨hpr, hp, hp2, a1, a2⟩ := baseB_t hbs
  have hi := Lib.hid (fun w => codS_any p q n ms 6 hms hb w hr)
  rw [hc] at hi
  unfold ptN
  obtain ⟨N, rfl⟩ : ∃ N : Nat, n = N := ⟨n.toNat, by omega⟩
  have he := Lib.hid (fun w => traS_any p q hbs N (by omega) ms hms hb hS false w)
  rw [Int.toNat_natCast]
  rw [tr_plain p N _ hp]
  simp only [if_false, Bool.false_eq_true] at he
  obtain ⟨V, hV⟩ : ∃ V, trS p (fun u => entN p q (rcp p q) N ms u u) (2 ^ N) = V := ⟨_, rfl⟩
  rw [hV] at he ⊢
  clear hV
  clear hb hc hd hS hbs hpr
  go_enter Try.func21, Try.ntmps21
  go_wp2_with (first
    | (refine wpList_load_row rfl 29 _ rfl _ rfl 29 _ (0, 0) _ (Own.new _ _ _) Try.underlying29 rfl (row26 (d17 _ _ (hl.out))) ?_)
    | (go_at_call 28; ((with_reducible refine (hi.out _).mono ?_); rintro e w1 ⟨rfl, hB1⟩))
    | (refine wpList_load_row rfl 29 _ rfl _ rfl 29 _ (0, 0) _ ((Own.new w _ _).below hB1 (by simp)) Try.underlying29 rfl (row26 (d17 _ _ (hl.out))) ?_)
    | (go_at_call 42; ((with_reducible refine (he.out _).mono ?_); rintro e w2 ⟨rfl, hB2⟩)))
  go_ret2
  have b1 : Below w.heap.size w w1 := ((Below.refl _ _).alloc (Nat.le_refl _) _).trans (hB1.mono (by simp))
  exact ⟨rfl, b1.trans (hB2.mono b1.size)⟩
theorem pt_both (p q n : Int) (ms : List Int) (hms : ms.length = 16) (hb : Bytes ms) (hr : -9223372036854775808 ≤ p ∧ p ≤ 9223372036854775807) : ∃ x y : Int, (∀ w, Calls Try.prog 21 #[.int .i64 p, .int .i64 q, .agg (dcells n ms)] w fun e w' => e = .returned (.tuple #[.int .i64 x, .int .i64 y]) ∧ Below w.heap.size w w')
    ∧ (∀ w, Calls Try.prog 22 #[.int .i64 p, .int .i64 q, .agg (dcells n ms)] w fun e w' => e = .returned (.tuple #[.int .i64 x, .int .i64 y]) ∧ Below w.heap.size w w') := by
  by_cases hc : codN p q n ms 6 = 0
  · exact ⟨_, _, fun w => ptS_ok p q n ms hms hb w hr hc, fun w => ptI_ok p q n ms hms hb w hc⟩
  · exact ⟨_, _, fun w => ptS_code p q n ms hms hb w hr hc, fun w => ptI_code p q n ms hms hb w hc⟩
set_option maxRecDepth 100000 in
theorem ptr_law (p q n : Int) (ms : List Int) (hms : ms.length = 16) (hb : Bytes ms) (w : World) (hr : -9223372036854775808 ≤ p ∧ p ≤ 9223372036854775807) :
    Calls Try.prog 7 #[.int .i64 p, .int .i64 q, .agg (dcells n ms)] w fun e w' => e = .returned (.bool true) ∧ Below w.heap.size w w' := by
  obtain ⟨x, y, hS0, hI0⟩ := pt_both p q n ms hms hb hr
  have hl := Lib.hid hms
  have hS' := Lib.hid hS0
  have hI' := Lib.hid hI0
  clear hms hb hS0 hI0 hr
  go_enter Try.func7, Try.ntmps7
  go_wp2_with (first
    | (refine wpList_load_row rfl 27 _ rfl _ rfl 27 _ (0, 0) _ (Own.new _ _ _) Try.underlying27 rfl (row50 (d17 _ _ (hl.out))) ?_)
    | (go_at_call 21; ((with_reducible refine (hS'.out _).mono ?_); rintro e w2 ⟨rfl, hB2⟩))
    | (go_at_call 22; ((with_reducible refine (hI'.out _).mono ?_); rintro e w4 ⟨rfl, hB4⟩))
    | (go_at_call 11; ((with_reducible refine (toD_any n ms hl.out w2).mono ?_); rintro e w3 ⟨rfl, hB3⟩))
    | (go_at_call 11; ((with_reducible refine (toD_any n ms hl.out _).mono ?_); rintro e w1 ⟨rfl, hB1⟩))
    | (refine wpList_load_row rfl 27 _ rfl _ rfl 27 _ (0, 0) _ (((Own.new _ _ _).below hB1 (by simp)).below hB2 (Nat.lt_of_lt_of_le (by simp) hB1.size)) Try.underlying27 rfl (row50 (d17 _ _ (hl.out))) ?_))
  go_ret
  have b0 : Below w.heap.size w (w.alloc (.cells (dcells n ms) 27)) := (Below.refl _ _).alloc (Nat.le_refl _) _
  have b1 := b0.trans (hB1.mono b0.size)
  have b2 := b1.trans (hB2.mono b1.size)
  have b3 := b2.trans (hB3.mono b2.size)
  exact ⟨rfl, b3.trans (hB4.mono b3.size)⟩
end Go.Proofs.Ytnlbokigogbneaa
