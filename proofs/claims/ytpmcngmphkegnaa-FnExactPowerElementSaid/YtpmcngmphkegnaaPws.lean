/- PowerElement: the model; the errors. (Written by genpws.py.) -/
import Derived.Test.YtpmcngmphkegnaaPwp
import Derived.Test.YtpmcngmphkegnaaScl
namespace Go.Proofs.Ytpmcngmphkegnaa
open Go.RowKit Go.Lib
set_option linter.unusedVariables false
set_option linter.unusedSimpArgs false
set_option maxRecDepth 100000 in
set_option maxHeartbeats 16000000 in
theorem powS_ok (p c n : Int) (kN : Nat) (hk20 : kN ≤ 20) (a1 cap : Nat) (ts : List Tm) (hts : ∀ t ∈ ts, t.2.1.length = 16 ∧ Bytes t.2.1) (hx : ts.length ≤ 1048576) (he : elB p c n ts = true) (p' c' n' code : Int) (L' : List Tm) (hres : PwA p c n ts kN p' c' n' code L') (w : World) (hR : RdT w (some ⟨a1, 0, none⟩) ts) :
    Calls Try.prog 27 #[.agg (ecl p c n (.slice (some ⟨a1, 0, none⟩) ts.length cap)), .int .i64 (kN : Int)] w fun e w' => (∃ q cap, e = .returned (.tuple #[.agg (ecl p' c' n' (.slice q L'.length cap)), .int .i64 code]) ∧ Res w' w.heap.size q L') ∧ Below w.heap.size w w' := by
  obtain ⟨hpr0, hc, hn, hl0, hG0, hsz, hp, hp2, hto⟩ := elB_good he hts
  have hi := Lib.hid (fun w hR => elS_any p c n (some ⟨a1, 0, none⟩) cap ts hts hx (by omega) w hR)
  rw [he] at hi
  have hin := Lib.hid (fun w => inS_t (kN : Int) 0 20 w (by omega) (by omega))
  have hokE : OkE p n ts := ⟨hG0, hsz, hl0⟩
  have htm := Lib.hid (fun (g cp : Nat) (L : List Tm) (hL : OkE p n L) W h1 h2 => timS_any p c n p c n n g a1 cp cap L ts (hL.all hp2) (hokE.all hp2) hL.2.2 hl0 hp hp2 hc.1 hc.2 W h1 h2)
  have hon := Lib.hid (fun w => oneE_any p c n (some ⟨a1, 0, none⟩) ts.length cap hn.1 hn.2 w)
  have hS0 := Lib.hid (show pwR p c n ts 0 = some [(n, oneL n n.toNat, 1)] from rfl)
  have hSn := Lib.hid (fun k L (h : pwR p c n ts k = some L) => pwR_next h)
  have hSo := Lib.hid (fun k L (h : pwR p c n ts k = some L) => pwR_ok hp hp2 hn.1 hn.2 hokE k L h)
  have hPg := Lib.hid (fun (L : List Tm) (hL : OkE p n L) => show GoodT p (prN p c n L ts) from prN_good (by omega) (fun t ht => ⟨(hL.all hp2 t ht).1, (hL.all hp2 t ht).2.1⟩) (fun t h => ⟨(hokE.all hp2 t h).1, (hokE.all hp2 t h).2.1⟩))
  have hnone := Lib.hid (fun k (h : pwR p c n ts k = none) m (hm : k ≤ m) => pwR_none h m hm)
  have hPl := Lib.hid (fun (L : List Tm) (hL : OkE p n L) => show (prN p c n L ts).length ≤ 19600 from Nat.le_trans (prN_len p c n L ts) (Nat.mul_le_mul hL.2.2 hl0))
  have hrs := Lib.hid hres
  have hRx := Lib.hid (fun w' (hb : Below w.heap.size w w') => hR.below hb)
  obtain ⟨S, hS⟩ : ∃ S, pwR p c n ts = S := ⟨_, rfl⟩
  obtain ⟨N, hN⟩ : ∃ N : List Tm → List Tm, (fun L => prN p c n L ts) = N := ⟨_, rfl⟩
  have hN' : ∀ L, prN p c n L ts = N L := fun L => congrFun hN L
  unfold PwA at hrs
  simp only [hS, hN'] at hS0 hSn hSo hPg hnone hrs htm hPl
  obtain ⟨U, hU⟩ : ∃ U, oneL n n.toNat = U := ⟨_, rfl⟩
  rw [hU] at hon hS0
  obtain ⟨m, hm⟩ : ∃ m, ts.length = m := ⟨_, rfl⟩
  rw [hm] at hi htm hon ⊢
  clear hts hx he hpr0 hc hl0 hG0 hsz hto hR hokE hS hN hN' hU hm hres
  have b00 := built00
  unfold ecl at *
  go_enter Try.func27, Try.ntmps27
  go_wp2_with (first
    | (go_at_call 55; (have wb := (((Below.refl w.heap.size w).alloc (Nat.le_refl _) (.cells #[.int .i64 p, .int .i64 c, .int .i64 n, .slice (some ⟨a1, 0, none⟩) m cap] 28)).alloc (by simp) (.cells #[.int .i64 0, .int .i64 0, .int .i64 0, .slice none 0 0] 28)); (with_reducible refine (hi.out _ (hRx.out _ wb)).mono ?_); rintro e w1 ⟨rfl, hB1⟩; have oX1 := ((Own.new w #[.int .i64 p, .int .i64 c, .int .i64 n, .slice (some ⟨a1, 0, none⟩) m cap] 28).alloc (.cells #[.int .i64 0, .int .i64 0, .int .i64 0, .slice none 0 0] 28)).below hB1 (by simp; omega); have oR1 := (Own.at (w.alloc (.cells #[.int .i64 p, .int .i64 c, .int .i64 n, .slice (some ⟨a1, 0, none⟩) m cap] 28)) #[.int .i64 0, .int .i64 0, .int .i64 0, .slice none 0 0] 28 (by simp : _ = w.heap.size + 1)).below hB1 (by simp); have b1 : Below w.heap.size w w1 := wb.trans (hB1.mono (by simp; omega)); clear hB1 wb))
    | (go_at_call 56; ((with_reducible refine (hin.out _).mono ?_); rintro e w2 ⟨rfl, rfl⟩))
    | (go_at_call 67; ((with_reducible refine (hon.out w1).mono ?_); rintro e w4 ⟨g4, cp4, rfl, hM4, hcp4, hB4⟩; have oX4 := oX1.below hB4 oX1.lt; have oR4 := oR1.below hB4 oR1.lt; have b4 := b1.trans (hB4.mono b1.size)))
    | (refine wpList_load_row rfl 28 _ rfl _ rfl 28 _ (0, 0) _ oX1 Try.underlying28 rfl (by kernel_rfl) ?_)
    | (refine wpList_load_row rfl 28 _ rfl _ rfl 28 _ (0, 0) _ ((Own.new w _ _).alloc _) Try.underlying28 rfl (by kernel_rfl) ?_)
    | (refine wpList_store_own rfl 28 _ _ rfl _ _ rfl rfl 28 _ (Own.new w4 _ _) (by kernel_rfl) rfl (by simp [Value.oneCell']) ?_; intro w5 oP5 hN5))
  have l4 := oX4.lt
  have l5 := oR4.lt
  have l6 := hM4.lt
  have oX5 := (oX4.alloc _).only hN5 (by omega)
  have oR5 := (oR4.alloc _).only hN5 (by omega)
  have r5 : MnT w5 w.heap.size g4 [(n, U, 1)] := by
    obtain ⟨h0, sp, ho⟩ := hM4
    exact ⟨by have := b1.size; omega, sp, (ho.alloc _).only hN5 (by omega)⟩
  have b5 : Below w.heap.size w w5 := (b4.alloc b4.size _).trans (hN5.below.mono b4.size)
  obtain ⟨e8, he8⟩ : ∃ x, w4.heap.size = x := ⟨_, rfl⟩
  rw [he8] at oP5 l4 l5 ⊢
  clear oX1 oR1 hB4 oX4 oR4 b4 hN5 b1 hM4 l6 he8
  simp only [Act.put, List.setIfInBounds_toArray, List.set_cons_succ, List.set_cons_zero]
  go_loopw [1] (fun x wr => ∃ (i : Nat) (z : Int) (L : List Tm) (g cp : Nat), i ≤ kN ∧ z = (kN : Int) - i ∧ x = .int .i64 z ∧ S i = some L ∧ Own wr w.heap.size #[.int .i64 p, .int .i64 c, .int .i64 n, .slice (some ⟨a1, 0, none⟩) m cap] 28 ∧ Own wr (w.heap.size + 1) #[.int .i64 0, .int .i64 0, .int .i64 0, .slice none 0 0] 28 ∧ Own wr e8 #[.int .i64 p, .int .i64 c, .int .i64 n, .slice (some ⟨g, 0, none⟩) L.length cp] 28 ∧ MnT wr w.heap.size g L ∧ Below w.heap.size w wr) (fun x _ => (intOf x).toNat)
  case atStart => exact ⟨0, kN, _, g4, cp4, by omega, by omega, rfl, hS0.out, oX5, oR5, oP5, r5, b5⟩
  case round =>
    clear oX5 oR5 oP5 r5 b5
    obtain ⟨i, z, L, g, cp, hi0, hz, rfl, hSi, oX, oR, oP, rP, bW⟩ := hrel
    by_cases hlt : i < kN
    · have lI : 0 < z := by omega
      have hz2 : z ≤ 20 := by omega
      have hOk := hSo.out i L hSi
      have hSn' := hSn.out i L hSi
      have hGN := hPg.out L hOk
      have h16 := good16 hOk.1
      have htm' := Lib.hid (fun W h1 h2 => htm.out g cp L hOk W h1 h2)
      have hlN := hPl.out L hOk
      obtain ⟨l, hl⟩ : ∃ l, L.length = l := ⟨_, rfl⟩
      obtain ⟨M, hM⟩ : ∃ M, N L = M := ⟨_, rfl⟩
      rw [hM] at htm' hGN hSn' hlN
      rw [hl] at htm' oP
      obtain ⟨l1, hl1⟩ : ∃ l, M.length = l := ⟨_, rfl⟩
      rw [hl1] at htm' hSn' hlN
      have hl1' := Lib.hid hl1
      have hrP := Lib.hid (fun W B g (h : MnT W B g L) => h.rd h16)
      have hzz := Lib.hid hz
      clear htm hSo hPg hSn hM hl1 hl hz
      by_cases hle : l1 ≤ 140
      · have hle1 : ¬ (140 : Int) < (l1 : Int) := by omega
        rw [if_pos hle] at hSn'
        go_wp2_with (first
          | (go_at_call 60; ((with_reducible refine (htm'.out wr (hrP.out _ _ _ rP) (hRx.out _ bW)).mono ?_); rintro e w6 ⟨⟨g6, cp6, rfl, hc6, hM6⟩, hB6⟩; have oX6 := oX.below hB6 oX.lt; have oR6 := oR.below hB6 oR.lt; have oP6 := oP.below hB6 oP.lt; have b6 := bW.trans (hB6.mono bW.size)))
          | (refine wpList_load_row rfl 28 _ rfl _ rfl 28 _ (0, 0) _ oX Try.underlying28 rfl (by kernel_rfl) ?_)
          | (refine wpList_load_row rfl 28 _ rfl _ rfl 28 _ (0, 0) _ oP Try.underlying28 rfl (by kernel_rfl) ?_)
          | (refine wpList_store_own rfl 28 _ _ rfl _ _ rfl rfl 28 _ oP6 (by kernel_rfl) rfl (by simp [Value.oneCell']) ?_; intro w7 oP7 hN7; have oX7 := oX6.only hN7 (by have := oX6.lt; omega); have oR7 := oR6.only hN7 (by have := oR6.lt; omega); have c7 : w7.cell? ⟨e8, 3, none⟩ = some (.slice (some ⟨g6, 0, none⟩) l1 cp6) := oP7.cell 3; have b7 := b6.trans (hN7.below.mono (by omega)); have hM7 : MnT w7 w.heap.size g6 M := (by obtain ⟨h0, sp, ho⟩ := hM6; exact ⟨by have := bW.size; omega, sp, ho.only hN7 (ho.neTz oP6 (by decide))⟩)))
        have hl1e := hl1'.out
        subst hl1e
        go_roundw
        case rel => exact ⟨i + 1, z - 1, _, g6, cp6, by omega, by have := hzz.out; omega, by go_num, hSn', oX7, oR7, oP7, hM7, b7⟩
        case measure => simp [intOf]; omega
      · have hgt : (140 : Int) < (l1 : Int) := by omega
        rw [if_neg hle] at hSn'
        have hno := hnone.out (i + 1) hSn' kN (by omega)
        rcases hrs.out with ⟨h1, h2⟩ | ⟨h1, rfl, rfl, rfl, rfl, rfl⟩
        · rw [hno] at h1
          cases h1
        · go_wp2_with (first
            | (go_at_call 60; ((with_reducible refine (htm'.out wr (hrP.out _ _ _ rP) (hRx.out _ bW)).mono ?_); rintro e w6 ⟨⟨g6, cp6, rfl, hc6, hM6⟩, hB6⟩; have oR6 := oR.below hB6 oR.lt; have oP6 := oP.below hB6 oP.lt; have b6 := bW.trans (hB6.mono bW.size)))
            | (refine wpList_load_row rfl 28 _ rfl _ rfl 28 _ (0, 0) _ oX Try.underlying28 rfl (by kernel_rfl) ?_)
            | (refine wpList_load_row rfl 28 _ rfl _ rfl 28 _ (0, 0) _ oP Try.underlying28 rfl (by kernel_rfl) ?_)
            | (refine wpList_store_own rfl 28 _ _ rfl _ _ rfl rfl 28 _ oR7 (by kernel_rfl) rfl (by simp [Value.oneCell']) ?_; intro w8 oR8 hN8)
            | (refine wpList_store_own rfl 28 _ _ rfl _ _ rfl rfl 28 _ oP6 (by kernel_rfl) rfl (by simp [Value.oneCell']) ?_; intro w7 oP7 hN7; have oR7 := oR6.only hN7 (by have := oR6.lt; omega); have c7 : w7.cell? ⟨e8, 3, none⟩ = some (.slice (some ⟨g6, 0, none⟩) l1 cp6) := oP7.cell 3; have b7 := b6.trans (hN7.below.mono (by omega))))
          refine bodyPost_ret (v := .tuple #[.agg #[.int .i64 0, .int .i64 0, .int .i64 0, .slice none 0 0], .int .i64 3]) (results_row_tmp rfl _ _ _ _ _ (0, 0) _ rfl oR8 Try.underlying28 rfl (by kernel_rfl) _ rfl) rfl ⟨⟨none, 0, rfl, .inl ⟨rfl, rfl⟩⟩, b7.trans (hN8.below.mono (by omega))⟩
    · obtain rfl : i = kN := by omega
      have lI : ¬ 0 < z := by omega
      rcases hrs.out with ⟨h1, e1, e2, e3, e4⟩ | ⟨h1, h2⟩
      · have e1 := e1.symm
        have e2 := e2.symm
        have e3 := e3.symm
        subst e1 e2 e3 e4
        rw [hSi] at h1
        obtain rfl : L = L' := by injection h1
        go_wp2_with (first
          | (refine wpList_load_row rfl 28 _ rfl _ rfl 28 _ (0, 0) _ oP Try.underlying28 rfl (by kernel_rfl) ?_)
          | (refine wpList_store_own rfl 28 _ _ rfl _ _ rfl rfl 28 _ oR (by kernel_rfl) rfl (by simp [Value.oneCell']) ?_; intro w7 oR7 hN7))
        refine bodyPost_ret (v := .tuple #[.agg #[.int .i64 p, .int .i64 c, .int .i64 n, .slice (some ⟨g, 0, none⟩) L.length cp], .int .i64 0]) (results_row_tmp rfl _ _ _ _ _ (0, 0) _ rfl oR7 Try.underlying28 rfl (by kernel_rfl) _ rfl) rfl ⟨⟨some ⟨g, 0, none⟩, ⟨cp, rfl⟩, Res.nl2 (Res.own rP) hN7 oR⟩, bW.trans (hN7.below.mono (by omega))⟩
      · rw [hSi] at h1
        cases h1
set_option maxRecDepth 100000 in
set_option maxHeartbeats 4000000 in
theorem powI_b1 (p c n k : Int) (a cap : Nat) (ts : List Tm) (hts : ∀ t ∈ ts, t.2.1.length = 16 ∧ Bytes t.2.1) (hx : ts.length ≤ 1048576) (he : elB p c n ts = false) (w : World) (hR : RdT w (some ⟨a, 0, none⟩) ts) :
    Calls Try.prog 28 #[.agg (ecl p c n (.slice (some ⟨a, 0, none⟩) ts.length cap)), .int .i64 k] w fun e w' => e = .returned (.tuple #[.agg (ecl 0 0 0 (.slice none 0 0)), .int .i64 1]) ∧ Below w.heap.size w w' := by
  have hi := Lib.hid (fun w hR => elI_any p c n (some ⟨a, 0, none⟩) cap ts hts hx w hR)
  rw [he] at hi
  obtain ⟨l, hll⟩ : ∃ l, ts.length = l := ⟨_, rfl⟩
  rw [hll] at hi ⊢
  have hR' := Lib.hid (fun w' (hb : Below w.heap.size w w') => hR.below hb)
  have b00 := built00
  clear hts hx he hR hll
  unfold ecl at *
  go_enter Try.func28, Try.ntmps28
  go_wp2_with (first
    | (go_at_call 58; (have wb := (((Below.refl w.heap.size w).alloc (Nat.le_refl _) (.cells #[.int .i64 p, .int .i64 c, .int .i64 n, .slice (some ⟨a, 0, none⟩) l cap] 28)).alloc (by simp) (.cells #[.int .i64 0, .int .i64 0, .int .i64 0, .slice none 0 0] 28)); (with_reducible refine (hi.out _ (hR'.out _ wb)).mono ?_); rintro e w1 ⟨rfl, hB1⟩; have oX1 := ((Own.new w #[.int .i64 p, .int .i64 c, .int .i64 n, .slice (some ⟨a, 0, none⟩) l cap] 28).alloc (.cells #[.int .i64 0, .int .i64 0, .int .i64 0, .slice none 0 0] 28)).below hB1 (by simp; omega); have x2 : w1.cell? ⟨w.heap.size, 2, none⟩ = some (.int .i64 n) := oX1.cell 2; have oR1 := (Own.at (w.alloc (.cells #[.int .i64 p, .int .i64 c, .int .i64 n, .slice (some ⟨a, 0, none⟩) l cap] 28)) #[.int .i64 0, .int .i64 0, .int .i64 0, .slice none 0 0] 28 (by simp : _ = w.heap.size + 1)).below hB1 (by simp); have b1 : Below w.heap.size w w1 := wb.trans (hB1.mono (by simp; omega)); clear hB1 wb))
    | (refine wpList_load_row rfl 28 _ rfl _ rfl 28 _ (0, 0) _ ((Own.new w _ _).alloc _) Try.underlying28 rfl (by kernel_rfl) ?_)
    | (refine wpList_store_own rfl 28 _ _ rfl _ _ rfl rfl 28 _ oR1 (by kernel_rfl) rfl (by simp [Value.oneCell']) ?_; intro w5 oR5 hN5))
  refine bodyPost_ret (v := .tuple #[.agg #[.int .i64 0, .int .i64 0, .int .i64 0, .slice none 0 0], .int .i64 1]) (results_row_tmp rfl _ _ _ _ _ (0, 0) _ rfl oR5 Try.underlying28 rfl (by kernel_rfl) _ rfl) rfl ⟨rfl, b1.trans (hN5.below.mono (by omega))⟩
set_option maxRecDepth 100000 in
set_option maxHeartbeats 4000000 in
theorem powS_b1 (p c n k : Int) (a cap : Nat) (ts : List Tm) (hts : ∀ t ∈ ts, t.2.1.length = 16 ∧ Bytes t.2.1) (hx : ts.length ≤ 1048576) (hpw : -9223372036854775808 ≤ p ∧ p ≤ 9223372036854775807) (he : elB p c n ts = false) (w : World) (hR : RdT w (some ⟨a, 0, none⟩) ts) :
    Calls Try.prog 27 #[.agg (ecl p c n (.slice (some ⟨a, 0, none⟩) ts.length cap)), .int .i64 k] w fun e w' => e = .returned (.tuple #[.agg (ecl 0 0 0 (.slice none 0 0)), .int .i64 1]) ∧ Below w.heap.size w w' := by
  have hi := Lib.hid (fun w hR => elS_any p c n (some ⟨a, 0, none⟩) cap ts hts hx hpw w hR)
  rw [he] at hi
  obtain ⟨l, hll⟩ : ∃ l, ts.length = l := ⟨_, rfl⟩
  rw [hll] at hi ⊢
  have hR' := Lib.hid (fun w' (hb : Below w.heap.size w w') => hR.below hb)
  have b00 := built00
  clear hts hx he hR hll
  unfold ecl at *
  go_enter Try.func27, Try.ntmps27
  go_wp2_with (first
    | (go_at_call 55; (have wb := (((Below.refl w.heap.size w).alloc (Nat.le_refl _) (.cells #[.int .i64 p, .int .i64 c, .int .i64 n, .slice (some ⟨a, 0, none⟩) l cap] 28)).alloc (by simp) (.cells #[.int .i64 0, .int .i64 0, .int .i64 0, .slice none 0 0] 28)); (with_reducible refine (hi.out _ (hR'.out _ wb)).mono ?_); rintro e w1 ⟨rfl, hB1⟩; have oX1 := ((Own.new w #[.int .i64 p, .int .i64 c, .int .i64 n, .slice (some ⟨a, 0, none⟩) l cap] 28).alloc (.cells #[.int .i64 0, .int .i64 0, .int .i64 0, .slice none 0 0] 28)).below hB1 (by simp; omega); have x2 : w1.cell? ⟨w.heap.size, 2, none⟩ = some (.int .i64 n) := oX1.cell 2; have oR1 := (Own.at (w.alloc (.cells #[.int .i64 p, .int .i64 c, .int .i64 n, .slice (some ⟨a, 0, none⟩) l cap] 28)) #[.int .i64 0, .int .i64 0, .int .i64 0, .slice none 0 0] 28 (by simp : _ = w.heap.size + 1)).below hB1 (by simp); have b1 : Below w.heap.size w w1 := wb.trans (hB1.mono (by simp; omega)); clear hB1 wb))
    | (refine wpList_load_row rfl 28 _ rfl _ rfl 28 _ (0, 0) _ ((Own.new w _ _).alloc _) Try.underlying28 rfl (by kernel_rfl) ?_)
    | (refine wpList_store_own rfl 28 _ _ rfl _ _ rfl rfl 28 _ oR1 (by kernel_rfl) rfl (by simp [Value.oneCell']) ?_; intro w5 oR5 hN5))
  refine bodyPost_ret (v := .tuple #[.agg #[.int .i64 0, .int .i64 0, .int .i64 0, .slice none 0 0], .int .i64 1]) (results_row_tmp rfl _ _ _ _ _ (0, 0) _ rfl oR5 Try.underlying28 rfl (by kernel_rfl) _ rfl) rfl ⟨rfl, b1.trans (hN5.below.mono (by omega))⟩
set_option maxRecDepth 100000 in
set_option maxHeartbeats 4000000 in
theorem powaI_b2 (p c n k : Int) (a cap : Nat) (ts : List Tm) (hts : ∀ t ∈ ts, t.2.1.length = 16 ∧ Bytes t.2.1) (hx : ts.length ≤ 1048576) (he : elB p c n ts = true) (hk : k < 0) (w : World) (hR : RdT w (some ⟨a, 0, none⟩) ts) :
    Calls Try.prog 28 #[.agg (ecl p c n (.slice (some ⟨a, 0, none⟩) ts.length cap)), .int .i64 k] w fun e w' => e = .returned (.tuple #[.agg (ecl 0 0 0 (.slice none 0 0)), .int .i64 2]) ∧ Below w.heap.size w w' := by
  have hi := Lib.hid (fun w hR => elI_any p c n (some ⟨a, 0, none⟩) cap ts hts hx w hR)
  rw [he] at hi
  obtain ⟨l, hll⟩ : ∃ l, ts.length = l := ⟨_, rfl⟩
  rw [hll] at hi ⊢
  have hR' := Lib.hid (fun w' (hb : Below w.heap.size w w') => hR.below hb)
  have b00 := built00
  clear hts hx he hR hll
  unfold ecl at *
  go_enter Try.func28, Try.ntmps28
  go_wp2_with (first
    | (go_at_call 58; (have wb := (((Below.refl w.heap.size w).alloc (Nat.le_refl _) (.cells #[.int .i64 p, .int .i64 c, .int .i64 n, .slice (some ⟨a, 0, none⟩) l cap] 28)).alloc (by simp) (.cells #[.int .i64 0, .int .i64 0, .int .i64 0, .slice none 0 0] 28)); (with_reducible refine (hi.out _ (hR'.out _ wb)).mono ?_); rintro e w1 ⟨rfl, hB1⟩; have oX1 := ((Own.new w #[.int .i64 p, .int .i64 c, .int .i64 n, .slice (some ⟨a, 0, none⟩) l cap] 28).alloc (.cells #[.int .i64 0, .int .i64 0, .int .i64 0, .slice none 0 0] 28)).below hB1 (by simp; omega); have x2 : w1.cell? ⟨w.heap.size, 2, none⟩ = some (.int .i64 n) := oX1.cell 2; have oR1 := (Own.at (w.alloc (.cells #[.int .i64 p, .int .i64 c, .int .i64 n, .slice (some ⟨a, 0, none⟩) l cap] 28)) #[.int .i64 0, .int .i64 0, .int .i64 0, .slice none 0 0] 28 (by simp : _ = w.heap.size + 1)).below hB1 (by simp); have b1 : Below w.heap.size w w1 := wb.trans (hB1.mono (by simp; omega)); clear hB1 wb))
    | (refine wpList_load_row rfl 28 _ rfl _ rfl 28 _ (0, 0) _ ((Own.new w _ _).alloc _) Try.underlying28 rfl (by kernel_rfl) ?_)
    | (refine wpList_store_own rfl 28 _ _ rfl _ _ rfl rfl 28 _ oR1 (by kernel_rfl) rfl (by simp [Value.oneCell']) ?_; intro w5 oR5 hN5))
  refine bodyPost_ret (v := .tuple #[.agg #[.int .i64 0, .int .i64 0, .int .i64 0, .slice none 0 0], .int .i64 2]) (results_row_tmp rfl _ _ _ _ _ (0, 0) _ rfl oR5 Try.underlying28 rfl (by kernel_rfl) _ rfl) rfl ⟨rfl, b1.trans (hN5.below.mono (by omega))⟩
set_option maxRecDepth 100000 in
set_option maxHeartbeats 4000000 in
theorem powbI_b2 (p c n k : Int) (a cap : Nat) (ts : List Tm) (hts : ∀ t ∈ ts, t.2.1.length = 16 ∧ Bytes t.2.1) (hx : ts.length ≤ 1048576) (he : elB p c n ts = true) (hk0 : ¬ k < 0) (hk : 20 < k) (w : World) (hR : RdT w (some ⟨a, 0, none⟩) ts) :
    Calls Try.prog 28 #[.agg (ecl p c n (.slice (some ⟨a, 0, none⟩) ts.length cap)), .int .i64 k] w fun e w' => e = .returned (.tuple #[.agg (ecl 0 0 0 (.slice none 0 0)), .int .i64 2]) ∧ Below w.heap.size w w' := by
  have hi := Lib.hid (fun w hR => elI_any p c n (some ⟨a, 0, none⟩) cap ts hts hx w hR)
  rw [he] at hi
  obtain ⟨l, hll⟩ : ∃ l, ts.length = l := ⟨_, rfl⟩
  rw [hll] at hi ⊢
  have hR' := Lib.hid (fun w' (hb : Below w.heap.size w w') => hR.below hb)
  have b00 := built00
  clear hts hx he hR hll
  unfold ecl at *
  go_enter Try.func28, Try.ntmps28
  go_wp2_with (first
    | (go_at_call 58; (have wb := (((Below.refl w.heap.size w).alloc (Nat.le_refl _) (.cells #[.int .i64 p, .int .i64 c, .int .i64 n, .slice (some ⟨a, 0, none⟩) l cap] 28)).alloc (by simp) (.cells #[.int .i64 0, .int .i64 0, .int .i64 0, .slice none 0 0] 28)); (with_reducible refine (hi.out _ (hR'.out _ wb)).mono ?_); rintro e w1 ⟨rfl, hB1⟩; have oX1 := ((Own.new w #[.int .i64 p, .int .i64 c, .int .i64 n, .slice (some ⟨a, 0, none⟩) l cap] 28).alloc (.cells #[.int .i64 0, .int .i64 0, .int .i64 0, .slice none 0 0] 28)).below hB1 (by simp; omega); have x2 : w1.cell? ⟨w.heap.size, 2, none⟩ = some (.int .i64 n) := oX1.cell 2; have oR1 := (Own.at (w.alloc (.cells #[.int .i64 p, .int .i64 c, .int .i64 n, .slice (some ⟨a, 0, none⟩) l cap] 28)) #[.int .i64 0, .int .i64 0, .int .i64 0, .slice none 0 0] 28 (by simp : _ = w.heap.size + 1)).below hB1 (by simp); have b1 : Below w.heap.size w w1 := wb.trans (hB1.mono (by simp; omega)); clear hB1 wb))
    | (refine wpList_load_row rfl 28 _ rfl _ rfl 28 _ (0, 0) _ ((Own.new w _ _).alloc _) Try.underlying28 rfl (by kernel_rfl) ?_)
    | (refine wpList_store_own rfl 28 _ _ rfl _ _ rfl rfl 28 _ oR1 (by kernel_rfl) rfl (by simp [Value.oneCell']) ?_; intro w5 oR5 hN5))
  refine bodyPost_ret (v := .tuple #[.agg #[.int .i64 0, .int .i64 0, .int .i64 0, .slice none 0 0], .int .i64 2]) (results_row_tmp rfl _ _ _ _ _ (0, 0) _ rfl oR5 Try.underlying28 rfl (by kernel_rfl) _ rfl) rfl ⟨rfl, b1.trans (hN5.below.mono (by omega))⟩
set_option maxRecDepth 100000 in
set_option maxHeartbeats 4000000 in
theorem powS_b2 (p c n k : Int) (a cap : Nat) (ts : List Tm) (hts : ∀ t ∈ ts, t.2.1.length = 16 ∧ Bytes t.2.1) (hx : ts.length ≤ 1048576) (hpw : -9223372036854775808 ≤ p ∧ p ≤ 9223372036854775807) (he : elB p c n ts = true) (hk : ¬ (0 ≤ k ∧ k ≤ 20)) (w : World) (hR : RdT w (some ⟨a, 0, none⟩) ts) :
    Calls Try.prog 27 #[.agg (ecl p c n (.slice (some ⟨a, 0, none⟩) ts.length cap)), .int .i64 k] w fun e w' => e = .returned (.tuple #[.agg (ecl 0 0 0 (.slice none 0 0)), .int .i64 2]) ∧ Below w.heap.size w w' := by
  have hi := Lib.hid (fun w hR => elS_any p c n (some ⟨a, 0, none⟩) cap ts hts hx hpw w hR)
  rw [he] at hi
  have hin := Lib.hid (fun w => inS_f k 0 20 w (by omega))
  obtain ⟨l, hll⟩ : ∃ l, ts.length = l := ⟨_, rfl⟩
  rw [hll] at hi ⊢
  have hR' := Lib.hid (fun w' (hb : Below w.heap.size w w') => hR.below hb)
  have b00 := built00
  clear hts hx he hR hll
  unfold ecl at *
  go_enter Try.func27, Try.ntmps27
  go_wp2_with (first
    | (go_at_call 55; (have wb := (((Below.refl w.heap.size w).alloc (Nat.le_refl _) (.cells #[.int .i64 p, .int .i64 c, .int .i64 n, .slice (some ⟨a, 0, none⟩) l cap] 28)).alloc (by simp) (.cells #[.int .i64 0, .int .i64 0, .int .i64 0, .slice none 0 0] 28)); (with_reducible refine (hi.out _ (hR'.out _ wb)).mono ?_); rintro e w1 ⟨rfl, hB1⟩; have oX1 := ((Own.new w #[.int .i64 p, .int .i64 c, .int .i64 n, .slice (some ⟨a, 0, none⟩) l cap] 28).alloc (.cells #[.int .i64 0, .int .i64 0, .int .i64 0, .slice none 0 0] 28)).below hB1 (by simp; omega); have x2 : w1.cell? ⟨w.heap.size, 2, none⟩ = some (.int .i64 n) := oX1.cell 2; have oR1 := (Own.at (w.alloc (.cells #[.int .i64 p, .int .i64 c, .int .i64 n, .slice (some ⟨a, 0, none⟩) l cap] 28)) #[.int .i64 0, .int .i64 0, .int .i64 0, .slice none 0 0] 28 (by simp : _ = w.heap.size + 1)).below hB1 (by simp); have b1 : Below w.heap.size w w1 := wb.trans (hB1.mono (by simp; omega)); clear hB1 wb))
    | (refine wpList_load_row rfl 28 _ rfl _ rfl 28 _ (0, 0) _ ((Own.new w _ _).alloc _) Try.underlying28 rfl (by kernel_rfl) ?_)
    | (go_at_call 56; ((with_reducible refine (hin.out _).mono ?_); rintro e w2 ⟨rfl, rfl⟩))
    | (refine wpList_store_own rfl 28 _ _ rfl _ _ rfl rfl 28 _ oR1 (by kernel_rfl) rfl (by simp [Value.oneCell']) ?_; intro w5 oR5 hN5))
  refine bodyPost_ret (v := .tuple #[.agg #[.int .i64 0, .int .i64 0, .int .i64 0, .slice none 0 0], .int .i64 2]) (results_row_tmp rfl _ _ _ _ _ (0, 0) _ rfl oR5 Try.underlying28 rfl (by kernel_rfl) _ rfl) rfl ⟨rfl, b1.trans (hN5.below.mono (by omega))⟩
end Go.Proofs.Ytpmcngmphkegnaa
