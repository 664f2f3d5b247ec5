/- PowerElement: the program. (Written by genpwi2.py.) -/
import Derived.Test.YtpmcngmphkegnaaPwp
import Derived.Test.YtpmcngmphkegnaaGfr
import Derived.Test.YtpmcngmphkegnaaScl
namespace Go.Proofs.Ytpmcngmphkegnaa
open Go.RowKit Go.Lib
set_option linter.unusedVariables false
set_option linter.unusedSimpArgs false
set_option maxRecDepth 100000 in
set_option maxHeartbeats 16000000 in
theorem powI_ok (p c n : Int) (kN : Nat) (hk20 : kN ≤ 20) (a1 cap : Nat) (ts : List Tm) (hts : ∀ t ∈ ts, t.2.1.length = 16 ∧ Bytes t.2.1) (hx : ts.length ≤ 1048576) (he : elB p c n ts = true) (p' c' n' code : Int) (L' : List Tm) (hres : PwA p c n ts kN p' c' n' code L') (w : World) (hR : RdT w (some ⟨a1, 0, none⟩) ts) :
    Calls Try.prog 28 #[.agg (ecl p c n (.slice (some ⟨a1, 0, none⟩) ts.length cap)), .int .i64 (kN : Int)] w fun e w' => (∃ q cap, e = .returned (.tuple #[.agg (ecl p' c' n' (.slice q L'.length cap)), .int .i64 code]) ∧ Res w' w.heap.size q L') ∧ Below w.heap.size w w' := by
  obtain ⟨hpr0, hc, hn, hl0, hG0, hsz, hp, hp2, hto⟩ := elB_good he hts
  have hi := Lib.hid (fun w hR => elI_any p c n (some ⟨a1, 0, none⟩) cap ts hts hx w hR)
  rw [he] at hi
  have hokE : OkE p n ts := ⟨hG0, hsz, hl0⟩
  have hokH := Lib.hid hokE
  have hpo := Lib.hid (fun (q : Option Addr) (cp : Nat) (L : List Tm) (hL : OkE p n L) W h1 h2 => poeI_any p c n p c n n q (some ⟨a1, 0, none⟩) cp cap L ts (hL.all hp2) (hokE.all hp2) hL.2.2 hl0 hp hp2 hc.1 hc.2 W h1 h2)
  have heos := Lib.hid (fun (m0 : Nat) (L : List Tm) (hG : GoodT p L) (hl : L.length ≤ 19600) => show ∃ (p1 c1 n1 cd : Int) (L1 : List Tm), ((L.length ≤ 140 ∧ p1 = p ∧ c1 = c ∧ n1 = n ∧ cd = 0 ∧ L1 = L) ∨ (140 < L.length ∧ p1 = 0 ∧ c1 = 0 ∧ n1 = 0 ∧ cd = 3 ∧ L1 = [])) ∧ ∀ (b nn : Nat) (W : World) (hM : Smp W b nn L), Calls Try.prog 51 #[.agg (ecl p c n (.slice (some ⟨a1, 0, none⟩) m0 cap)), .map (some b)] W fun e w' => (∃ q cp, e = .returned (.tuple #[.agg (ecl p1 c1 n1 (.slice q L1.length cp)), .int .i64 cd]) ∧ Res w' W.heap.size q L1) ∧ Below W.heap.size W w' from by
    by_cases h : L.length ≤ 140
    · refine ⟨p, c, n, 0, L, .inl ⟨h, rfl, rfl, rfl, rfl, rfl⟩, fun b nn W hM => (eos_any p c n (some ⟨a1, 0, none⟩) m0 cap b nn p L W hM hG hp2 h).mono ?_⟩
      rintro e w' ⟨qt, mt, ct, rfl, hT, hB⟩
      obtain ⟨rfl, hr⟩ := hT.res
      exact ⟨⟨qt, ct, rfl, hr⟩, hB⟩
    · exact ⟨0, 0, 0, 3, [], .inr ⟨by omega, rfl, rfl, rfl, rfl, rfl⟩, fun b nn W hM => res0 (eos_many p c n (some ⟨a1, 0, none⟩) m0 cap b nn p L W hM hG (by omega) (by omega))⟩)
  have hun := Lib.hid (fun w => unitI_ok n w hn.1 hn.2)
  have hol := Lib.hid (oneL_len n n.toNat)
  have hlk := Lib.hid (fun w => likeI_any p c n (some ⟨a1, 0, none⟩) ts.length cap n (oneL n n.toNat) (oneL_len n n.toNat) w)
  have hS0 := Lib.hid (show pwR p c n ts 0 = some [(n, oneL n n.toNat, 1)] from rfl)
  have hSn := Lib.hid (fun k L (h : pwR p c n ts k = some L) => pwR_next h)
  have hSo := Lib.hid (fun k L (h : pwR p c n ts k = some L) => pwR_ok hp hp2 hn.1 hn.2 hokE k L h)
  have hPg := Lib.hid (fun (L : List Tm) (hL : OkE p n L) => show GoodT p (prN p c n L ts) ∧ (prN p c n L ts).length ≤ 19600 from ⟨prN_good (by omega) (fun t ht => ⟨(hL.all hp2 t ht).1, (hL.all hp2 t ht).2.1⟩) (fun t h => ⟨(hokE.all hp2 t h).1, (hokE.all hp2 t h).2.1⟩), Nat.le_trans (prN_len p c n L ts) (Nat.mul_le_mul hL.2.2 hl0)⟩)
  have hnone := Lib.hid (fun k (h : pwR p c n ts k = none) m (hm : k ≤ m) => pwR_none h m hm)
  have hrs := Lib.hid hres
  have hRx := Lib.hid (fun w' (hb : Below w.heap.size w w') => hR.below hb)
  obtain ⟨S, hS⟩ : ∃ S, pwR p c n ts = S := ⟨_, rfl⟩
  obtain ⟨N, hN⟩ : ∃ N : List Tm → List Tm, (fun L => prN p c n L ts) = N := ⟨_, rfl⟩
  have hN' : ∀ L, prN p c n L ts = N L := fun L => congrFun hN L
  unfold PwA at hrs
  simp only [hS, hN'] at hS0 hSn hSo hPg hnone hrs hpo
  obtain ⟨U, hU⟩ : ∃ U, oneL n n.toNat = U := ⟨_, rfl⟩
  rw [hU] at hun hol hlk hS0
  obtain ⟨m, hm⟩ : ∃ m, ts.length = m := ⟨_, rfl⟩
  rw [hm] at hi hpo hlk ⊢

  have hk0 : ¬ (kN : Int) < 0 := by omega
  have hk2 : ¬ (20 : Int) < (kN : Int) := by omega
  clear hts hx he hpr0 hc hl0 hG0 hsz hto hR hokE hS hN hN' hU hm hres
  have b00 := built00
  unfold ecl at *
  go_enter Try.func28, Try.ntmps28
  go_upto_region 7 with (first
    | (go_at_call 58; (have wb := (((Below.refl w.heap.size w).alloc (Nat.le_refl _) (.cells #[.int .i64 p, .int .i64 c, .int .i64 n, .slice (some ⟨a1, 0, none⟩) m cap] 28)).alloc (by simp) (.cells #[.int .i64 0, .int .i64 0, .int .i64 0, .slice none 0 0] 28)); (with_reducible refine (hi.out _ (hRx.out _ wb)).mono ?_); rintro e w1 ⟨rfl, hB1⟩; have oX1 := ((Own.new w #[.int .i64 p, .int .i64 c, .int .i64 n, .slice (some ⟨a1, 0, none⟩) m cap] 28).alloc (.cells #[.int .i64 0, .int .i64 0, .int .i64 0, .slice none 0 0] 28)).below hB1 (by simp; omega); have oR1 := (Own.at (w.alloc (.cells #[.int .i64 p, .int .i64 c, .int .i64 n, .slice (some ⟨a1, 0, none⟩) m cap] 28)) #[.int .i64 0, .int .i64 0, .int .i64 0, .slice none 0 0] 28 (by simp : _ = w.heap.size + 1)).below hB1 (by simp); have b1 : Below w.heap.size w w1 := wb.trans (hB1.mono (by simp; omega)); have x2 : w1.cell? ⟨w.heap.size, 2, none⟩ = some (.int .i64 n) := oX1.cell 2; clear hB1 wb))
    | (go_at_call 68; ((with_reducible refine (hun.out w1).mono ?_); rintro e w2 ⟨rfl, hB2⟩; have oX2 := oX1.below hB2 oX1.lt; have oR2 := oR1.below hB2 oR1.lt; have b2 := b1.trans (hB2.mono b1.size)))
    | (go_at_call 69; ((with_reducible refine (hlk.out w3).mono ?_); rintro e w4 ⟨g4, rfl, hg4, hO4, hB4⟩; have oX4 := oX3.below hB4 oX3.lt; have oR4 := oR3.below hB4 oR3.lt; have b4 := b3.trans (hB4.mono b3.size)))
    | (refine wpList_load_row rfl 28 _ rfl _ rfl 28 _ (0, 0) _ oX3 Try.underlying28 rfl (by kernel_rfl) ?_)
    | (refine wpList_load_row rfl 28 _ rfl _ rfl 28 _ (0, 0) _ ((Own.new w _ _).alloc _) Try.underlying28 rfl (by kernel_rfl) ?_)
    | (refine wpList_load_row rfl 68 _ rfl _ rfl 68 _ (0, 0) _ (oD3) Try.underlying68 rfl (row26 (d17 _ _ (hol.out))) ?_)
    | (refine wpList_store_own rfl 68 _ _ rfl _ _ rfl rfl 68 _ (Own.new w2 _ _) (row26 (d17 _ _ hol.out)) (z_eq (d17 _ _ hol.out)) (dcells_one _ _) ?_; intro w3 oD3 hN3; have oX3 := (oX2.alloc _).only hN3 (by have := oX2.lt; omega); have oR3 := (oR2.alloc _).only hN3 (by have := oR2.lt; omega); have b3 : Below w.heap.size w w3 := (b2.alloc b2.size _).trans (hN3.below.mono b2.size))
    | (refine wpList_store_own rfl 28 _ _ rfl _ _ rfl rfl 28 _ (Own.new w4 _ _) (by kernel_rfl) rfl (by simp [Value.oneCell']) ?_; intro w5 oP5 hN5))
  have l4 := oX4.lt
  have l5 := oR4.lt
  have l6 := hO4.lt
  have oX5 := (oX4.alloc _).only hN5 (by omega)
  have oR5 := (oR4.alloc _).only hN5 (by omega)
  have r5 : Res w5 w.heap.size (some ⟨g4, 0, none⟩) [(n, U, 1)] := .inr ⟨g4, rfl, MnT.ofOne (by have := b3.size; omega) ((hO4.alloc _).only hN5 (by omega))⟩
  have b5 : Below w.heap.size w w5 := (b4.alloc b4.size _).trans (hN5.below.mono b4.size)
  obtain ⟨e8, he8⟩ : ∃ x, w4.heap.size = x := ⟨_, rfl⟩
  rw [he8] at oP5 l4 l5 ⊢
  clear oX1 oR1 x2 hB2 oX2 oR2 b2 oX3 oR3 b3 hN3 oD3 hB4 oX4 oR4 b4 hN5 b1 hO4 l6 he8
  go_wp2
  go_loopw [32] (fun x wr => ∃ (i : Nat) (L : List Tm) (q : Option Addr) (cp : Nat), i ≤ kN ∧ x = .int .i64 i ∧ S i = some L ∧ Own wr w.heap.size #[.int .i64 p, .int .i64 c, .int .i64 n, .slice (some ⟨a1, 0, none⟩) m cap] 28 ∧ Own wr (w.heap.size + 1) #[.int .i64 0, .int .i64 0, .int .i64 0, .slice none 0 0] 28 ∧ Own wr e8 #[.int .i64 p, .int .i64 c, .int .i64 n, .slice q L.length cp] 28 ∧ Res wr w.heap.size q L ∧ Below w.heap.size w wr) (fun x _ => (kN - intOf x).toNat)
  case atStart => exact ⟨0, _, some ⟨g4, 0, none⟩, 1, by omega, rfl, hS0.out, oX5, oR5, oP5, r5, b5⟩
  case round =>
    clear oX5 oR5 oP5 r5 b5
    obtain ⟨i, L, q, cp, hi0, rfl, hSi, oX, oR, oP, rP, bW⟩ := hrel
    by_cases hlt : i < kN
    · have lI : (i : Int) < (kN : Int) := by omega
      have hOk := hSo.out i L hSi
      have hSn' := hSn.out i L hSi
      obtain ⟨hGN, hlN⟩ := hPg.out L hOk
      have h16 := good16 hOk.1
      have hpo' := Lib.hid (fun W h1 h2 => hpo.out q cp L hOk W h1 h2)
      obtain ⟨l, hl⟩ : ∃ l, L.length = l := ⟨_, rfl⟩
      obtain ⟨M, hM⟩ : ∃ M, N L = M := ⟨_, rfl⟩
      rw [hM] at hpo' hGN hlN hSn'
      rw [hl] at hpo' oP
      have hrP := Lib.hid (fun W B q (h : Res W B q L) => h.rd h16)
      obtain ⟨p1, c1, n1, cd, L1, hdj, heo0⟩ := heos.out m M hGN hlN
      have heo := Lib.hid heo0
      have hdd := Lib.hid hdj
      obtain ⟨l1, hl1⟩ : ∃ l, L1.length = l := ⟨_, rfl⟩
      have hl1' := Lib.hid hl1
      rw [hl1] at heo
      have hll := Lib.hid hl
      clear heo0 hdj hl1 hl
      clear hpo hSo hPg hSn hM
      go_upto_region 9 with fail
      have ltX := oX.lt
      have ltP := oP.lt
      obtain ⟨wd, rfl⟩ : ∃ x, x = wr := ⟨_, rfl⟩
      refine gen_fr (fun jx => ⟨List.toArray [.agg #[.int .i64 p, .int .i64 c, .int .i64 n, .slice (some ⟨a1, 0, none⟩) m cap], .int .i64 (kN : Int), .pointer (some ⟨w.heap.size, 0, none⟩), undef, .pointer (some ⟨w.heap.size + 1, 0, none⟩), jx 5, .pointer (some ⟨w2.heap.size, 0, none⟩), .int .i64 0, .pointer (some ⟨e8, 0, none⟩), jx 9, jx 10, .agg #[.int .i64 p, .int .i64 c, .int .i64 n, .slice (some ⟨a1, 0, none⟩) m cap], .bool true, .bool false, undef, .int .i64 (kN : Int), .bool (decide ((kN : Int) < 0)), .bool (decide ((kN : Int) < 0)), .int .i64 (kN : Int), .bool (decide ((20 : Int) < (kN : Int))), .bool (decide ((kN : Int) < 0) || decide ((20 : Int) < (kN : Int))), undef, .tuple #[.agg (dcells n U), .int .i64 0], .pointer (some ⟨w.heap.size, 2, none⟩), .int .i64 n, .tuple #[.agg (dcells n U), .int .i64 0], .agg (dcells n U), .int .i64 0, .agg #[.int .i64 p, .int .i64 c, .int .i64 n, .slice (some ⟨a1, 0, none⟩) m cap], .agg (dcells n U), .agg #[.int .i64 p, .int .i64 c, .int .i64 n, .slice (some ⟨g4, 0, none⟩) 1 1], .int .i64 (kN : Int), .int .i64 (i : Int), .bool true, jx 34, jx 35, jx 36, jx 37, jx 38, jx 39, jx 40, jx 41, jx 42, jx 43, jx 44, jx 45, jx 46, jx 47, undef], []⟩) ?_ (by rfl)
      intro jx
      refine wp_region_facts (by kernel_rfl) (by kernel_rfl) (fun a w' => ∃ x35 x36 x37 x38 x39 x34 x40 x41 x9 x10 : Value, a = ⟨List.toArray [.agg #[.int .i64 p, .int .i64 c, .int .i64 n, .slice (some ⟨a1, 0, none⟩) m cap], .int .i64 (kN : Int), .pointer (some ⟨w.heap.size, 0, none⟩), undef, .pointer (some ⟨w.heap.size + 1, 0, none⟩), jx 5, .pointer (some ⟨w2.heap.size, 0, none⟩), .int .i64 0, .pointer (some ⟨e8, 0, none⟩), x9, x10, .agg #[.int .i64 p, .int .i64 c, .int .i64 n, .slice (some ⟨a1, 0, none⟩) m cap], .bool true, .bool false, undef, .int .i64 (kN : Int), .bool (decide ((kN : Int) < 0)), .bool (decide ((kN : Int) < 0)), .int .i64 (kN : Int), .bool (decide ((20 : Int) < (kN : Int))), .bool (decide ((kN : Int) < 0) || decide ((20 : Int) < (kN : Int))), undef, .tuple #[.agg (dcells n U), .int .i64 0], .pointer (some ⟨w.heap.size, 2, none⟩), .int .i64 n, .tuple #[.agg (dcells n U), .int .i64 0], .agg (dcells n U), .int .i64 0, .agg #[.int .i64 p, .int .i64 c, .int .i64 n, .slice (some ⟨a1, 0, none⟩) m cap], .agg (dcells n U), .agg #[.int .i64 p, .int .i64 c, .int .i64 n, .slice (some ⟨g4, 0, none⟩) 1 1], .int .i64 (kN : Int), .int .i64 (i : Int), .bool true, x34, x35, x36, x37, x38, x39, x40, x41, jx 42, jx 43, jx 44, jx 45, jx 46, jx 47, undef], []⟩ ∧ Below wd.heap.size wd w') (fun jF a w' => match jF with | 0 => sl a 35 = .agg #[.int .i64 p, .int .i64 c, .int .i64 n, .slice (some ⟨a1, 0, none⟩) m cap] | 1 => sl a 36 = .agg #[.int .i64 p, .int .i64 c, .int .i64 n, .slice q l cp] | 2 => sl a 37 = .agg #[.int .i64 p, .int .i64 c, .int .i64 n, .slice (some ⟨a1, 0, none⟩) m cap] | 3 => ∃ b nn : Nat, sl a 38 = .map (some b) ∧ wd.heap.size ≤ b ∧ Smp w' b nn M | 4 => ∃ (q0 : Option Addr) (cp0 : Nat), sl a 39 = .tuple #[.agg #[.int .i64 p1, .int .i64 c1, .int .i64 n1, .slice q0 l1 cp0], .int .i64 cd] ∧ Res w' wd.heap.size q0 L1 | 5 => ∃ (q0 : Option Addr) (cp0 : Nat), sl a 34 = .tuple #[.agg #[.int .i64 p1, .int .i64 c1, .int .i64 n1, .slice q0 l1 cp0], .int .i64 cd] ∧ Res w' wd.heap.size q0 L1 | 6 => ∃ (q0 : Option Addr) (cp0 : Nat), sl a 40 = .agg #[.int .i64 p1, .int .i64 c1, .int .i64 n1, .slice q0 l1 cp0] ∧ Res w' wd.heap.size q0 L1 | 7 => sl a 41 = .int .i64 cd | 8 => ∃ g : Nat, sl a 9 = .pointer (some ⟨g, 0, none⟩) ∧ wd.heap.size ≤ g ∧ ∃ cs : Array Value, cs.size = 4 ∧ Own w' g cs 28 | 9 => ∃ (g : Nat) (q0 : Option Addr) (cp0 : Nat), sl a 9 = .pointer (some ⟨g, 0, none⟩) ∧ wd.heap.size ≤ g ∧ Own w' g #[.int .i64 p1, .int .i64 c1, .int .i64 n1, .slice q0 l1 cp0] 28 ∧ Res w' wd.heap.size q0 L1 | 10 => sl a 10 = .int .i64 cd | _ => True) ⟨_, _, _, _, _, _, _, _, _, _, rfl, (Below.refl _ _).drew⟩ ?_ ?_
      · refine (AllOps.cons ?_ (AllOps.cons ?_ (AllOps.cons ?_ (AllOps.cons ?_ (AllOps.cons ?_ (AllOps.cons ?_ (AllOps.cons ?_ (AllOps.cons ?_ (AllOps.cons ?_ (AllOps.cons ?_ (AllOps.cons ?_ AllOps.nil)))))))))))
        · rintro a w0 ⟨x35, x36, x37, x38, x39, x34, x40, x41, x9, x10, rfl, hB⟩ hd K hK
          go_wp2_with (first | (refine wpList_load_row rfl 28 _ rfl _ rfl 28 _ (0, 0) _ (oX.below hB ltX) Try.underlying28 rfl (by kernel_rfl) ?_))
          refine hK _ _ ⟨_, _, _, _, _, _, _, _, _, _, rfl, hB⟩ (rfl) ?_
          rintro (_|_|_|_|_|_|_|_|_|_|_|_) hj hn h <;> first | exact h | exact absurd rfl hj | exact waits_no hn (by kernel_rfl)
        · rintro a w0 ⟨x35, x36, x37, x38, x39, x34, x40, x41, x9, x10, rfl, hB⟩ hd K hK
          go_wp2_with (first | (refine wpList_load_row rfl 28 _ rfl _ rfl 28 _ (0, 0) _ (oP.below hB ltP) Try.underlying28 rfl (by kernel_rfl) ?_))
          refine hK _ _ ⟨_, _, _, _, _, _, _, _, _, _, rfl, hB⟩ (rfl) ?_
          rintro (_|_|_|_|_|_|_|_|_|_|_|_) hj hn h <;> first | exact h | exact absurd rfl hj | exact waits_no hn (by kernel_rfl)
        · rintro a w0 ⟨x35, x36, x37, x38, x39, x34, x40, x41, x9, x10, rfl, hB⟩ hd K hK
          go_wp2_with (first | (refine wpList_load_row rfl 28 _ rfl _ rfl 28 _ (0, 0) _ (oX.below hB ltX) Try.underlying28 rfl (by kernel_rfl) ?_))
          refine hK _ _ ⟨_, _, _, _, _, _, _, _, _, _, rfl, hB⟩ (rfl) ?_
          rintro (_|_|_|_|_|_|_|_|_|_|_|_) hj hn h <;> first | exact h | exact absurd rfl hj | exact waits_no hn (by kernel_rfl)
        · rintro a w0 ⟨x35, x36, x37, x38, x39, x34, x40, x41, x9, x10, rfl, hB⟩ hd K hK
          have d0 : x36 = _ := hd 1 (by kernel_rfl)
          have d1 : x37 = _ := hd 2 (by kernel_rfl)
          subst d0 d1
          go_wp2_with (first | (go_at_call 61; ((with_reducible refine (hpo'.out w0 ((hrP.out _ _ _ rP).below (hB.mono (Nat.le_refl _))) (hRx.out _ (bW.trans (hB.mono bW.size)))).mono ?_); rintro e w2 ⟨⟨b, nn, rfl, hnn, hbb, hMM⟩, hB2⟩)))
          refine hK _ _ ⟨_, _, _, _, _, _, _, _, _, _, rfl, hB.trans (hB2.mono hB.size)⟩ (⟨b, nn, rfl, Nat.le_trans hB.size hbb, hMM⟩) ?_
          rintro (_|_|_|_|_|_|_|_|_|_|_|_) hj hn h <;> first | exact h | exact absurd rfl hj | (obtain ⟨b, nn, e, hg, hO⟩ := h; exact ⟨b, nn, e, hg, hO.below hB2 hO.lt⟩) | (obtain ⟨q0, cp0, e, hr⟩ := h; exact ⟨q0, cp0, e, hr.below hB2 (Nat.le_refl _)⟩) | (obtain ⟨g, e, hg, cs, hcs, hO⟩ := h; exact ⟨g, e, hg, cs, hcs, hO.below hB2 hO.lt⟩) | exact waits_no hn (by kernel_rfl)
        · rintro a w0 ⟨x35, x36, x37, x38, x39, x34, x40, x41, x9, x10, rfl, hB⟩ hd K hK
          have d0 : x35 = _ := hd 0 (by kernel_rfl)
          obtain ⟨b, nn, e, hg, hO⟩ := hd 3 (by kernel_rfl)
          have e : x38 = _ := e
          subst d0 e
          go_wp2_with (first | (go_at_call 51; ((with_reducible refine (heo.out b nn w0 hO).mono ?_); rintro e w2 ⟨⟨q1, cp1, rfl, hr⟩, hB2⟩)))
          refine hK _ _ ⟨_, _, _, _, _, _, _, _, _, _, rfl, hB.trans (hB2.mono hB.size)⟩ (⟨q1, cp1, rfl, hr.weak hB.size⟩) ?_
          rintro (_|_|_|_|_|_|_|_|_|_|_|_) hj hn h <;> first | exact h | exact absurd rfl hj | (obtain ⟨b, nn, e, hg, hO⟩ := h; exact ⟨b, nn, e, hg, hO.below hB2 hO.lt⟩) | (obtain ⟨q0, cp0, e, hr⟩ := h; exact ⟨q0, cp0, e, hr.below hB2 (Nat.le_refl _)⟩) | (obtain ⟨g, e, hg, cs, hcs, hO⟩ := h; exact ⟨g, e, hg, cs, hcs, hO.below hB2 hO.lt⟩) | exact waits_no hn (by kernel_rfl)
        · rintro a w0 ⟨x35, x36, x37, x38, x39, x34, x40, x41, x9, x10, rfl, hB⟩ hd K hK
          obtain ⟨q1, cp1, e, hr⟩ := hd 4 (by kernel_rfl)
          have e : x39 = _ := e
          subst e
          go_wp2
          refine hK _ _ ⟨_, _, _, _, _, _, _, _, _, _, rfl, hB⟩ (⟨q1, cp1, rfl, hr⟩) ?_
          rintro (_|_|_|_|_|_|_|_|_|_|_|_) hj hn h <;> first | exact h | exact absurd rfl hj | exact waits_no hn (by kernel_rfl)
        · rintro a w0 ⟨x35, x36, x37, x38, x39, x34, x40, x41, x9, x10, rfl, hB⟩ hd K hK
          obtain ⟨q1, cp1, e, hr⟩ := hd 5 (by kernel_rfl)
          have e : x34 = _ := e
          subst e
          go_wp2
          refine hK _ _ ⟨_, _, _, _, _, _, _, _, _, _, rfl, hB⟩ (⟨q1, cp1, rfl, hr⟩) ?_
          rintro (_|_|_|_|_|_|_|_|_|_|_|_) hj hn h <;> first | exact h | exact absurd rfl hj | exact waits_no hn (by kernel_rfl)
        · rintro a w0 ⟨x35, x36, x37, x38, x39, x34, x40, x41, x9, x10, rfl, hB⟩ hd K hK
          obtain ⟨q1, cp1, e, hr⟩ := hd 5 (by kernel_rfl)
          have e : x34 = _ := e
          subst e
          go_wp2
          refine hK _ _ ⟨_, _, _, _, _, _, _, _, _, _, rfl, hB⟩ (rfl) ?_
          rintro (_|_|_|_|_|_|_|_|_|_|_|_) hj hn h <;> first | exact h | exact absurd rfl hj | exact waits_no hn (by kernel_rfl)
        · rintro a w0 ⟨x35, x36, x37, x38, x39, x34, x40, x41, x9, x10, rfl, hB⟩ hd K hK
          go_wp2
          refine hK _ _ ⟨_, _, _, _, _, _, _, _, _, _, rfl, hB.alloc hB.size _⟩ (⟨_, rfl, hB.size, _, rfl, Own.new _ _ _⟩) ?_
          rintro (_|_|_|_|_|_|_|_|_|_|_|_) hj hn h <;> first | exact h | exact absurd rfl hj | (obtain ⟨b, nn, e, hg, hO⟩ := h; exact ⟨b, nn, e, hg, hO.alloc _⟩) | (obtain ⟨q0, cp0, e, hr⟩ := h; exact ⟨q0, cp0, e, hr.al _⟩) | exact waits_no hn (by kernel_rfl)
        · rintro a w0 ⟨x35, x36, x37, x38, x39, x34, x40, x41, x9, x10, rfl, hB⟩ hd K hK
          obtain ⟨g, e, hg, cs, hcs, hO⟩ := hd 8 (by kernel_rfl)
          have e : x9 = _ := e
          obtain ⟨q1, cp1, ex, hr⟩ := hd 6 (by kernel_rfl)
          have ex : x40 = _ := ex
          subst e ex
          go_wp2_with (first | (refine wpList_store_own rfl 28 _ _ rfl _ _ rfl rfl 28 _ hO (by kernel_rfl) (by rw [hcs]; rfl) (by simp [Value.oneCell']) ?_; intro w2 hO2 hN2))
          refine hK _ _ ⟨_, _, _, _, _, _, _, _, _, _, rfl, hB.trans (hN2.below.mono hg)⟩ (⟨g, q1, cp1, rfl, hg, hO2, Res.nl2 hr hN2 hO⟩) ?_
          rintro (_|_|_|_|_|_|_|_|_|_|_|_) hj hn h <;> first | exact h | exact absurd rfl hj | (obtain ⟨b, nn, e, hg, hO3⟩ := h; exact ⟨b, nn, e, hg, hO3.only hN2 (hO3.ne hO)⟩) | (obtain ⟨q0, cp0, e, hr⟩ := h; exact ⟨q0, cp0, e, Res.nl2 hr hN2 hO⟩) | exact ⟨g, rfl, hg, _, rfl, hO2⟩ | exact waits_no hn (by kernel_rfl)
        · rintro a w0 ⟨x35, x36, x37, x38, x39, x34, x40, x41, x9, x10, rfl, hB⟩ hd K hK
          have d0 : x41 = _ := hd 7 (by kernel_rfl)
          subst d0
          go_wp2
          refine hK _ _ ⟨_, _, _, _, _, _, _, _, _, _, rfl, hB⟩ (rfl) ?_
          rintro (_|_|_|_|_|_|_|_|_|_|_|_) hj hn h <;> first | exact h | exact absurd rfl hj | exact waits_no hn (by kernel_rfl)
      · rintro a w1 ⟨x35, x36, x37, x38, x39, x34, x40, x41, x9, x10, rfl, hB⟩ hF
        have e10 : x10 = _ := hF 10 (by decide)
        obtain ⟨gG, q1, cp1, e9, hgG, oG, r1⟩ := hF 9 (by decide)
        have e9 : x9 = _ := e9
        subst e10 e9
        clear hF
        have oX1 := oX.below hB ltX
        have oR1 := oR.below hB oR.lt
        have oP1 := oP.below hB ltP
        have b1 := bW.trans (hB.mono bW.size)
        have r1' : Res w1 w.heap.size q1 L1 := Res.weak r1 bW.size
        rcases hdd.out with ⟨hle, e1, e2, e3, e4, e5⟩ | ⟨hgt, rfl, rfl, rfl, rfl, rfl⟩
        · have e1 := e1.symm
          have e2 := e2.symm
          have e3 := e3.symm
          have e5 := e5.symm
          subst e1 e2 e3 e4 e5
          rw [if_pos hle] at hSn'
          have hnext := hSn'
          have hl1e := hl1'.out
          subst hl1e
          have hgl : gG ≠ e8 := by omega
          go_wp2_with (first
            | (refine wpList_load_row rfl 28 _ rfl _ rfl 28 _ (0, 0) _ oG Try.underlying28 rfl (by kernel_rfl) ?_)
            | (refine wpList_store_own rfl 28 _ _ rfl _ _ rfl rfl 28 _ oP1 (by kernel_rfl) rfl (by simp [Value.oneCell']) ?_; intro w7 oP7 hN7))
          have lX7 := oX1.lt
          go_roundw
          case rel => exact ⟨i + 1, _, q1, cp1, by omega, by go_num, hnext, oX1.only hN7 (by omega), oR1.only hN7 (by omega), oP7, Res.nl2 r1' hN7 oP1, b1.trans (hN7.below.mono (by omega))⟩
          case measure => simp [intOf]; omega
        · rw [if_neg (by omega)] at hSn'
          have hno := hnone.out (i + 1) hSn' kN (by omega)
          rcases hrs.out with ⟨h1, h2⟩ | ⟨h1, rfl, rfl, rfl, rfl, rfl⟩
          · rw [hno] at h1
            cases h1
          · go_wp2_with (first
              | (refine wpList_store_own rfl 28 _ _ rfl _ _ rfl rfl 28 _ oR1 (by kernel_rfl) rfl (by simp [Value.oneCell']) ?_; intro w7 oR7 hN7))
            refine bodyPost_ret (v := .tuple #[.agg #[.int .i64 0, .int .i64 0, .int .i64 0, .slice none 0 0], .int .i64 3]) (results_row_tmp rfl _ _ _ _ _ (0, 0) _ rfl oR7 Try.underlying28 rfl (by kernel_rfl) _ rfl) rfl ⟨⟨none, ⟨0, rfl⟩, .inl ⟨rfl, rfl⟩⟩, b1.trans (hN7.below.mono (by omega))⟩
    · obtain rfl : i = kN := by omega
      have lI : ¬ (i : Int) < (i : Int) := by omega
      rcases hrs.out with ⟨h1, e1, e2, e3, e4⟩ | ⟨h1, h2⟩
      · have e1 := e1.symm
        have e2 := e2.symm
        have e3 := e3.symm
        subst e1 e2 e3 e4
        rw [hSi] at h1
        obtain rfl : L = L' := by injection h1
        go_wp2_with (first
          | (refine wpList_load_row rfl 28 _ rfl _ rfl 28 _ (0, 0) _ oP Try.underlying28 rfl (by kernel_rfl) ?_)
          | (refine wpList_store_own rfl 28 _ _ rfl _ _ rfl rfl 28 _ oR (by kernel_rfl) rfl (by simp [Value.oneCell']) ?_; intro w7 oR7 hN7))
        refine bodyPost_ret (v := .tuple #[.agg #[.int .i64 p, .int .i64 c, .int .i64 n, .slice q L.length cp], .int .i64 0]) (results_row_tmp rfl _ _ _ _ _ (0, 0) _ rfl oR7 Try.underlying28 rfl (by kernel_rfl) _ rfl) rfl ⟨⟨q, ⟨cp, rfl⟩, Res.nl2 rP hN7 oR⟩, bW.trans (hN7.below.mono (by omega))⟩
      · rw [hSi] at h1
        cases h1
end Go.Proofs.Ytpmcngmphkegnaa
