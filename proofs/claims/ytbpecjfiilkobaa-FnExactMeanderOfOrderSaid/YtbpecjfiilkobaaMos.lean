/- MeanderOfOrder: the model's. -/
import Derived.Test.YtbpecjfiilkobaaMoi
import Derived.Test.YtbpecjfiilkobaaInv
namespace Go.Proofs.Ytbpecjfiilkobaa
open Go.RowKit
set_option linter.unusedVariables false
set_option linter.unusedSimpArgs false
/-- Two slices in blocks that are there, and not the same. -/
structure TwoB (n : Nat) (x y : Value) (w : World) : Prop where
  lx : ∀ g, x = .slice (some ⟨g, 0, none⟩) n n → g < w.heap.size
  ly : ∀ g, y = .slice (some ⟨g, 0, none⟩) n n → g < w.heap.size
  ne : ∀ g g', x = .slice (some ⟨g, 0, none⟩) n n → y = .slice (some ⟨g', 0, none⟩) n n → g ≠ g'
theorem TwoB.init (n : Nat) (w : World) : TwoB n undef undef w := ⟨fun g h => (by cases h), fun g h => (by cases h), fun g g' h => (by cases h)⟩
theorem TwoB.mono {n : Nat} {x y : Value} {w w' : World} (h : TwoB n x y w) (hs : w.heap.size ≤ w'.heap.size) : TwoB n x y w' :=
  ⟨fun g e => Nat.lt_of_lt_of_le (h.lx g e) hs, fun g e => Nat.lt_of_lt_of_le (h.ly g e) hs, h.ne⟩
theorem TwoB.left {n : Nat} {x y : Value} {w w' : World} (h : TwoB n x y w) (hs : w.heap.size < w'.heap.size) : TwoB n (.slice (some ⟨w.heap.size, 0, none⟩) n n) y w' := by
  refine ⟨fun g e => ?_, fun g e => Nat.lt_trans (h.ly g e) hs, fun g g' e e' => ?_⟩
  · have : w.heap.size = g := by simpa using e
    omega
  · have : w.heap.size = g := by simpa using e
    have := h.ly g' e'
    omega
theorem TwoB.right {n : Nat} {x y : Value} {w w' : World} (h : TwoB n x y w) (hs : w.heap.size < w'.heap.size) : TwoB n x (.slice (some ⟨w.heap.size, 0, none⟩) n n) w' := by
  refine ⟨fun g e => Nat.lt_trans (h.lx g e) hs, fun g e => ?_, fun g g' e e' => ?_⟩
  · have : w.heap.size = g := by simpa using e
    omega
  · have : w.heap.size = g' := by simpa using e'
    have := h.lx g e
    omega
set_option maxRecDepth 1000000 in
set_option maxHeartbeats 4000000 in
theorem mos_ok (p : Option Addr) (cap : Nat) (xs : List Int) (n : Nat) (hn : xs.length = n) (w : World) (hR : Rd w p xs) (l1 : n % 2 = 0) (l2 : 2 ≤ n) (l3 : n ≤ 12) (h0 : xs.getD 0 0 = 0) (e0 : Bool) (he0 : eachN n xs (List.replicate 12 false) = e0) (hxb0 : e0 = true → ∀ j, j < n → 0 ≤ xs.getD j 0 ∧ xs.getD j 0 < n) (U V : List Int) (hU : uL xs (n / 2) = U) (hV : dL xs (n / 2) = V) (b1 b2 : Bool) (hb1 : (!crossB U) = b1) (hb2 : (!crossB V) = b2) :
    Calls Try.prog 4 #[.slice p n cap] w fun e w' => e = .returned (if e0 = true then (if (b1 && b2) = true then .tuple #[.string (strT U n), .string (strT V n), .int .i64 0] else .tuple #[.string ⟨#[]⟩, .string ⟨#[]⟩, .int .i64 5]) else .tuple #[.string ⟨#[]⟩, .string ⟨#[]⟩, .int .i64 2]) ∧ Below w.heap.size w w' := by
  obtain ⟨ad, rfl⟩ := rd_some hR (show 0 < xs.length by omega)
  have hXB := Lib.hid hxb0
  have hCX := Lib.hid (show ∀ wx, Below w.heap.size w wx → ∀ j, j < n → wx.cell? (ad.add j) = some (.int .i64 (xs.getD j 0)) from fun wx hb j hj => (hR.below hb).cell ad rfl j (by omega))
  have hL := Lib.hid hn
  have HE := Lib.hid he0
  have hUU := Lib.hid hU
  have hVV := Lib.hid hV
  have lu : U.length = n := by rw [← hU, uL_len, hn]
  have lv : V.length = n := by rw [← hV, dL_len, hn]
  have htu0 := fun g w hO => stx_any U n lu l3 g n w hO
  have htd0 := fun g w hO => stx_any V n lv l3 g n w hO
  rw [hb1] at htu0
  rw [hb2] at htd0
  have htu := Lib.hid htu0
  have htd := Lib.hid htd0
  clear htu0 htd0
  have hu0 := Lib.hid (show icells (uL xs 0) = icells (List.replicate n 0) by rw [uL, hn])
  have hd0 := Lib.hid (show icells (dL xs 0) = icells (List.replicate n 0) by rw [dL, hn])
  have hmk := makeI n (by omega)
  have c1 := hCX.out w (Below.refl _ _) 0 (by omega)
  rw [show ad.add 0 = ad by unfold Addr.add; split <;> simp_all, h0] at c1
  have d1 : ((n : Int) % 2 != 0) = false := by simp; omega
  have d2 : ¬ (n : Int) < 2 := by omega
  have d3 : ¬ (12 : Int) < (n : Int) := by omega
  have d4 : (0 : Int) < (n : Int) := by omega
  have hn0 : ¬ n = 0 := by omega
  clear hn hR hxb0 hU hV hb1 hb2 he0 h0
  go_enter Try.func4, Try.ntmps4
  go_wp2
  clear c1 d1 d2 d3
  obtain ⟨wd, hwd⟩ : ∃ wd : World, ({ w with drawn := w.drawn + 1 } : World) = wd := ⟨_, rfl⟩
  have hBw : Below w.heap.size w wd := by rw [← hwd]; exact (Below.refl _ _).drew
  refine wp_region_facts (by kernel_rfl) (by kernel_rfl) (fun a w' => ∃ x6 x7 x8 x35 x36 x37 x38 x39 : Value, a = ⟨List.toArray [.slice (some ad) n cap, undef, .string ⟨#[]⟩, .string ⟨#[]⟩, .int .i64 0, .int .i64 n, x6, x7, x8, undef, undef, undef, undef, undef, undef, undef, .slice (some ad) n cap, .int .i64 n, .int .i64 n, .bool false, .bool false, .int .i64 n, .bool false, .bool false, .bool false, .int .i64 n, .int .i64 ((n : Int) % 2), .bool false, .bool false, .bool false, .slice (some ad) n cap, .pointer (some ad), .int .i64 0, .bool false, .bool false, x35, x36, x37, x38, x39, undef, undef, undef, undef, undef, undef, undef, undef, undef, undef, undef, undef, undef, undef, undef, undef, undef, undef, undef, undef, undef, undef, undef, undef, undef, undef, undef, undef, undef, undef, undef, undef, undef, undef, undef, undef, undef, undef, undef, undef, undef, undef, undef, undef, undef, undef, undef, undef, undef, undef, undef, undef, undef, undef, undef, undef, undef, undef, undef, undef, undef, undef, undef, undef, undef, undef, undef, undef, undef, undef, undef, undef, undef, undef, undef, undef, undef, undef, undef, undef, undef, undef, undef, undef, undef, undef, undef], []⟩ ∧ Below wd.heap.size wd w' ∧ TwoB n x37 x39 w') (fun j a w' => match j with | 0 => sl a 35 = .agg (bcells f12) | 1 => sl a 36 = .int .i64 n | 2 => ∃ g, wd.heap.size ≤ g ∧ sl a 37 = .slice (some ⟨g, 0, none⟩) n n ∧ Own w' g (icells (List.replicate n 0)) 2 | 3 => sl a 38 = .int .i64 n | 4 => ∃ g, wd.heap.size ≤ g ∧ sl a 39 = .slice (some ⟨g, 0, none⟩) n n ∧ Own w' g (icells (List.replicate n 0)) 2 | 5 => ∃ g, wd.heap.size ≤ g ∧ sl a 6 = .pointer (some ⟨g, 0, none⟩) ∧ ∃ cs, cs.size = 12 ∧ Own w' g cs 28 | 6 => ∃ g, wd.heap.size ≤ g ∧ sl a 6 = .pointer (some ⟨g, 0, none⟩) ∧ Own w' g (bcells f12) 28 | 7 => sl a 7 = sl a 37 | 8 => sl a 8 = sl a 39 | _ => True) ⟨_, _, _, _, _, _, _, _, rfl, by rw [← hwd]; exact Below.refl _ _, TwoB.init n _⟩ ?_ ?_
  · refine (AllOps.cons ?_ (AllOps.cons ?_ (AllOps.cons ?_ (AllOps.cons ?_ (AllOps.cons ?_ (AllOps.cons ?_ (AllOps.cons ?_ (AllOps.cons ?_ (AllOps.cons ?_ AllOps.nil)))))))))
    · rintro a w0 ⟨x6, x7, x8, x35, x36, x37, x38, x39, rfl, hB, hT⟩ hd K hK
      go_wp2_with (first | (refine wpList_build_of rfl 28 #[] rfl (bcells f12) ?_ ?_; (exact built12b)))
      refine hK _ _ ⟨_, _, _, _, _, _, _, _, rfl, hB, hT⟩ (rfl) ?_
      rintro (_|_|_|_|_|_|_|_|_|_) hj hn h <;> first | exact h | exact absurd rfl hj | exact waits_no hn (by kernel_rfl)
    · rintro a w0 ⟨x6, x7, x8, x35, x36, x37, x38, x39, rfl, hB, hT⟩ hd K hK
      go_wp2
      refine hK _ _ ⟨_, _, _, _, _, _, _, _, rfl, hB, hT⟩ (rfl) ?_
      rintro (_|_|_|_|_|_|_|_|_|_) hj hn h <;> first | exact h | exact absurd rfl hj | exact waits_no hn (by kernel_rfl)
    · rintro a w0 ⟨x6, x7, x8, x35, x36, x37, x38, x39, rfl, hB, hT⟩ hd K hK
      have d0 : x36 = _ := hd 1 (by kernel_rfl)
      subst d0
      go_wp2
      refine hK _ _ ⟨_, _, _, _, _, _, _, _, rfl, hB.alloc hB.size _, hT.left (by simp)⟩ (⟨_, hB.size, rfl, Own.new _ _ _⟩) ?_
      rintro (_|_|_|_|_|_|_|_|_|_) hj hn h <;> first | exact h | exact absurd rfl hj | (obtain ⟨g, hg, e, hO⟩ := h; exact ⟨g, hg, e, hO.alloc _⟩) | (obtain ⟨g, hg, e, cs, hcs, hO⟩ := h; exact ⟨g, hg, e, cs, hcs, hO.alloc _⟩) | exact waits_no hn (by kernel_rfl)
    · rintro a w0 ⟨x6, x7, x8, x35, x36, x37, x38, x39, rfl, hB, hT⟩ hd K hK
      go_wp2
      refine hK _ _ ⟨_, _, _, _, _, _, _, _, rfl, hB, hT⟩ (rfl) ?_
      rintro (_|_|_|_|_|_|_|_|_|_) hj hn h <;> first | exact h | exact absurd rfl hj | exact waits_no hn (by kernel_rfl)
    · rintro a w0 ⟨x6, x7, x8, x35, x36, x37, x38, x39, rfl, hB, hT⟩ hd K hK
      have d0 : x38 = _ := hd 3 (by kernel_rfl)
      subst d0
      go_wp2
      refine hK _ _ ⟨_, _, _, _, _, _, _, _, rfl, hB.alloc hB.size _, hT.right (by simp)⟩ (⟨_, hB.size, rfl, Own.new _ _ _⟩) ?_
      rintro (_|_|_|_|_|_|_|_|_|_) hj hn h <;> first | exact h | exact absurd rfl hj | (obtain ⟨g, hg, e, hO⟩ := h; exact ⟨g, hg, e, hO.alloc _⟩) | (obtain ⟨g, hg, e, cs, hcs, hO⟩ := h; exact ⟨g, hg, e, cs, hcs, hO.alloc _⟩) | exact waits_no hn (by kernel_rfl)
    · rintro a w0 ⟨x6, x7, x8, x35, x36, x37, x38, x39, rfl, hB, hT⟩ hd K hK
      go_wp2
      refine hK _ _ ⟨_, _, _, _, _, _, _, _, rfl, hB.alloc hB.size _, hT.mono (by simp)⟩ (⟨_, hB.size, rfl, _, rfl, Own.new _ _ _⟩) ?_
      rintro (_|_|_|_|_|_|_|_|_|_) hj hn h <;> first | exact h | exact absurd rfl hj | (obtain ⟨g, hg, e, hO⟩ := h; exact ⟨g, hg, e, hO.alloc _⟩) | (obtain ⟨g, hg, e, cs, hcs, hO⟩ := h; exact ⟨g, hg, e, cs, hcs, hO.alloc _⟩) | exact waits_no hn (by kernel_rfl)
    · rintro a w0 ⟨x6, x7, x8, x35, x36, x37, x38, x39, rfl, hB, hT⟩ hd K hK
      have d0 : x35 = _ := hd 0 (by kernel_rfl)
      have d8 := hd 5 (by kernel_rfl)
      obtain ⟨g1, hg1, e, cs, hcs, hO1⟩ := d8
      have e : x6 = _ := e
      subst d0 e
      go_wp2_with (first | (refine wpList_store_own rfl 28 _ _ rfl _ _ rfl rfl 28 _ hO1 row12b (by rw [hcs]; rfl) (one12b _) ?_; intro w2 hO2 hN2))
      refine hK _ _ ⟨_, _, _, _, _, _, _, _, rfl, hB.trans (hN2.below.mono hg1), hT.mono (Nat.le_of_eq hN2.size.symm)⟩ (⟨g1, hg1, rfl, hO2⟩) ?_
      rintro (_|_|_|_|_|_|_|_|_|_) hj hn h <;> first | exact h | exact absurd rfl hj | exact ⟨g1, hg1, rfl, _, rfl, hO2⟩ | (obtain ⟨g, hg, e, hO⟩ := h; exact ⟨g, hg, e, hO.only hN2 (Own.neT hO hO1 (by decide))⟩) | exact waits_no hn (by kernel_rfl)
    · rintro a w0 ⟨x6, x7, x8, x35, x36, x37, x38, x39, rfl, hB, hT⟩ hd K hK
      go_wp2
      refine hK _ _ ⟨_, _, _, _, _, _, _, _, rfl, hB, hT⟩ (rfl) ?_
      rintro (_|_|_|_|_|_|_|_|_|_) hj hn h <;> first | exact h | exact absurd rfl hj | exact waits_no hn (by kernel_rfl)
    · rintro a w0 ⟨x6, x7, x8, x35, x36, x37, x38, x39, rfl, hB, hT⟩ hd K hK
      go_wp2
      refine hK _ _ ⟨_, _, _, _, _, _, _, _, rfl, hB, hT⟩ (rfl) ?_
      rintro (_|_|_|_|_|_|_|_|_|_) hj hn h <;> first | exact h | exact absurd rfl hj | exact waits_no hn (by kernel_rfl)
  · rintro a w1 ⟨x6, x7, x8, x35, x36, x37, x38, x39, rfl, hB, hT⟩ hF
    have e7 : x7 = _ := hF 7 (by decide)
    have e8 : x8 = _ := hF 8 (by decide)
    obtain ⟨gu, hgu, f37, hOu⟩ := hF 2 (by decide)
    obtain ⟨gl, hgl, f39, hOl⟩ := hF 4 (by decide)
    obtain ⟨gm, hgm, f6, hOm⟩ := hF 6 (by decide)
    have f37 : x37 = _ := f37
    have f39 : x39 = _ := f39
    have f6 : x6 = _ := f6
    have e7 : x7 = x37 := e7
    have e8 : x8 = x39 := e8
    rw [f37] at e7
    rw [f39] at e8
    have hne := hT.ne gu gl f37 f39
    subst e7 e8 f37 f39 f6
    have hmu := Own.neT hOu hOm (by decide)
    have hml := Own.neT hOl hOm (by decide)
    have hsz := hBw.size
    have gu0 : w.heap.size ≤ gu := by omega
    have gl0 : w.heap.size ≤ gl := by omega
    have gm0 : w.heap.size ≤ gm := by omega
    have hB1 := hBw.trans (hB.mono hBw.size)
    clear hF hT hB hgu hgl hgm hwd hmk
    try clear e7
    try clear e8
    go_wp2
    go_loopw [9] (fun i wr => ∃ (k : Nat) (mb : List Bool), k ≤ n ∧ i = .int .i64 k ∧ Hid (mb.length = 12) ∧ Hid (eachN n (xs.drop k) mb = e0) ∧ Own wr gm (bcells mb) 28 ∧ Own wr gu (icells (List.replicate n 0)) 2 ∧ Own wr gl (icells (List.replicate n 0)) 2 ∧ Below w.heap.size w wr) (fun i _ => ((n : Int) - intOf i).toNat)
    case atStart => exact ⟨0, f12, by omega, rfl, Lib.hid rfl, HE, hOm, hOu, hOl, hB1⟩
    case round =>
      clear hOm hOu hOl hB1
      obtain ⟨k, mb, hk, rfl, hml2, hD, hM, hU, hV, hB⟩ := hrel
      by_cases hlt : k < n
      · have hks : k < xs.length := by have := hL.out; omega
        have c1 := hCX.out wr hB k hlt
        have hst := drop_step xs k hks
        obtain ⟨x, hxx⟩ : ∃ x, xs.getD k 0 = x := ⟨_, rfl⟩
        rw [hxx] at c1 hst
        have hD2 := Lib.hid (show (if 0 ≤ x ∧ x < n ∧ mb.getD x.toNat true = false then eachN n (xs.drop (k + 1)) (mb.set x.toNat true) else false) = e0 by rw [← hD.out, hst]; rfl)
        have i1 : (k : Int) < (n : Int) := by omega
        clear hst hxx hD
        by_cases g : 0 ≤ x ∧ x < n
        · obtain ⟨X, rfl⟩ : ∃ X : Nat, x = X := ⟨x.toNat, by omega⟩
          simp only [Int.toNat_natCast] at hD2
          obtain ⟨g1, g2⟩ := g
          have X12 : X < 12 := by omega
          have x12 : (X : Int) < 12 := by omega
          have hin := Lib.hid (fun w => inS_t (X : Int) 0 ((n : Int) - 1) w g1 (by omega))
          have k1 := hM.cell X
          rw [bcells_get _ _ (by rw [hml2.out]; omega)] at k1
          obtain ⟨t, ht⟩ : ∃ t, mb.getD X true = t := ⟨_, rfl⟩
          rw [ht] at k1
          cases t with
          | true =>
            have hbf : e0 = false := by rw [← hD2.out, if_neg (by rw [ht]; simp)]
            subst hbf
            clear ht
            go_wp2_with (first
              | (go_at_call 8; ((with_reducible refine (hin.out _).mono ?_); rintro e w7 ⟨rfl, rfl⟩; simp only [])))
            go_ret3
            exact ⟨rfl, hB⟩
          | false =>
            have hD3 := Lib.hid (show eachN n (xs.drop (k + 1)) (mb.set X true) = e0 by rw [← hD2.out, if_pos ⟨g1, g2, ht⟩])
            have f1 := hM.free X
            have hO2 := hM.set X (.bool true)
            rw [bcells_set] at hO2
            have K1 := Lib.hid hO2
            have K3 := Lib.hid (hU.other (a := ⟨gm, X, none⟩) hmu.symm (.bool true))
            have K4 := Lib.hid (hV.other (a := ⟨gm, X, none⟩) hml.symm (.bool true))
            have hB2 := hB.setCell (p := ⟨gm, X, none⟩) gm0 (.bool true)
            have K2 := Lib.hid (show (mb.set X true).length = 12 by rw [List.length_set]; exact hml2.out)
            clear hO2 ht hM hU hV
            go_wp2_with (first
              | (go_at_call 8; ((with_reducible refine (hin.out _).mono ?_); rintro e w7 ⟨rfl, rfl⟩; simp only [])))
            go_roundw
            case rel => exact ⟨k + 1, _, by omega, by go_num, K2, hD3, K1.out, K3.out, K4.out, hB2⟩
            case measure => simp [intOf]; omega
        · have hbf : e0 = false := by rw [← hD2.out, if_neg (fun h => g ⟨h.1, h.2.1⟩)]
          subst hbf
          have hin := Lib.hid (fun w => inS_f x 0 ((n : Int) - 1) w (by omega))
          clear g
          go_wp2_with (first
              | (go_at_call 8; ((with_reducible refine (hin.out _).mono ?_); rintro e w7 ⟨rfl, rfl⟩; simp only [])))
          go_ret3
          exact ⟨rfl, hB⟩
      · have hk2 : k = n := by omega
        subst hk2
        have hbt : e0 = true := by rw [← hD.out, List.drop_eq_nil_of_le (by have := hL.out; omega)]; rfl
        subst hbt
        have hxb := Lib.hid (hXB.out rfl)
        have hU0 := Lib.hid (show Own wr gu (icells (uL xs ((0 + 1) / 2))) 2 by rw [show (0 + 1) / 2 = 0 from rfl, hu0.out]; exact hU)
        have hV0 := Lib.hid (show Own wr gl (icells (dL xs (0 / 2))) 2 by rw [show 0 / 2 = 0 from rfl, hd0.out]; exact hV)
        clear hM hU hV
        go_wp2
        go_loopw [10] (fun i wr => ∃ (j : Nat), j ≤ k ∧ i = .int .i64 j ∧ Own wr gu (icells (uL xs ((j + 1) / 2))) 2 ∧ Own wr gl (icells (dL xs (j / 2))) 2 ∧ Below w.heap.size w wr) (fun i _ => ((k : Int) - intOf i).toNat)
        case atStart => exact ⟨0, by omega, rfl, hU0.out, hV0.out, hB⟩
        case round =>
          clear hU0 hV0 hB
          obtain ⟨j, hj, rfl, hU, hV, hB⟩ := hrel
          by_cases hlt : j < k
          · have i1 : (j : Int) < (k : Int) := by omega
            have q3l : (j + 1) % k < k := Nat.mod_lt _ (by omega)
            have r3 : ((j : Int) + 1) % (k : Int) = (((j + 1) % k : Nat) : Int) := by simp
            have x1b := hxb.out j hlt
            have x3b := hxb.out ((j + 1) % k) q3l
            have hsu : j % 2 = 0 → uL xs ((j + 1 + 1) / 2) = joinL (uL xs ((j + 1) / 2)) (xs.getD j 0) (xs.getD ((j + 1) % k) 0) := fun he => by
              rw [show (j + 1 + 1) / 2 = j / 2 + 1 by omega, show (j + 1) / 2 = j / 2 by omega, uL, show 2 * (j / 2) = j by omega, Nat.mod_eq_of_lt (show j + 1 < k by omega)]
            have hsd : j % 2 = 1 → dL xs ((j + 1) / 2) = joinL (dL xs (j / 2)) (xs.getD j 0) (xs.getD ((j + 1) % k) 0) := fun he => by
              rw [show (j + 1) / 2 = j / 2 + 1 by omega, dL, show 2 * (j / 2) + 1 = j by omega, show 2 * (j / 2) + 2 = j + 1 by omega, hL.out]
            have c1 := hCX.out wr hB j hlt
            have c3 := hCX.out wr hB _ q3l
            obtain ⟨q3, hq3⟩ : ∃ q, (j + 1) % k = q := ⟨_, rfl⟩
            rw [hq3] at q3l r3 x3b hsu hsd c3
            obtain ⟨x1, hx1⟩ : ∃ x, xs.getD j 0 = x := ⟨_, rfl⟩
            obtain ⟨x3, hx3⟩ : ∃ x, xs.getD q3 0 = x := ⟨_, rfl⟩
            rw [hx1] at x1b hsu hsd c1
            rw [hx3] at x3b hsu hsd c3
            have HX1 := Lib.hid hx1
            have HX3 := Lib.hid hx3
            have r3t : ((j : Int) + 1).tmod (k : Int) = (q3 : Int) := by rw [Int.tmod_eq_emod_of_nonneg (by omega)]; exact r3
            have j3 : (q3 : Int) < (k : Int) := by omega
            obtain ⟨x1a, x1c⟩ := x1b
            obtain ⟨x3a, x3c⟩ := x3b
            by_cases he : j % 2 = 0
            · have hsu := Lib.hid (hsu he)
              have hV2 := Lib.hid (show dL xs ((j + 1) / 2) = dL xs (j / 2) by rw [show (j + 1) / 2 = j / 2 by omega])
              have hev : (((j : Int) % 2) == 0) = true := by simp; omega
              have hevt : (((j : Int).tmod 2) == 0) = true := by rw [Int.tmod_eq_emod_of_nonneg (by omega)]; exact hev
              have hul := Lib.hid (show (uL xs ((j + 1) / 2)).length = k by rw [uL_len]; exact hL.out)
              obtain ⟨us, hus⟩ : ∃ us, uL xs ((j + 1) / 2) = us := ⟨_, rfl⟩
              rw [hus] at hU hul hsu
              have u1 := hU.cell x1.toNat
              rw [icells_get _ _ (by rw [hul.out]; omega)] at u1
              have fu1 := hU.free x1.toNat
              have hU1 := hU.set x1.toNat (.int .i64 x3)
              have u2 := hU1.cell x3.toNat
              rw [icells_set, icells_get _ _ (by rw [List.length_set, hul.out]; omega)] at u2
              have fu2 := hU1.free x3.toNat
              have hU2 := hU1.set x3.toNat (.int .i64 x1)
              rw [icells_set, icells_set] at hU2
              have K1 := Lib.hid (show Own ((wr.setCell ⟨gu, x1.toNat, none⟩ (.int .i64 x3)).setCell ⟨gu, x3.toNat, none⟩ (.int .i64 x1)) gu (icells (uL xs ((j + 1 + 1) / 2))) 2 by rw [hsu.out]; exact hU2)
              have K2 := Lib.hid ((hV.other (a := ⟨gu, x1.toNat, none⟩) hne (.int .i64 x3)).other (a := ⟨gu, x3.toNat, none⟩) hne (.int .i64 x1))
              rw [← hV2.out] at K2
              have K3 := Lib.hid ((hB.setCell (p := ⟨gu, x1.toNat, none⟩) gu0 (.int .i64 x3)).setCell (p := ⟨gu, x3.toNat, none⟩) gu0 (.int .i64 x1))
              have k1 := hCX.out _ (hB.setCell (p := ⟨gu, x1.toNat, none⟩) gu0 (.int .i64 x3)) j hlt
              rw [HX1.out] at k1
              clear hU hV hU1 hU2 hsd hx1 hx3 hq3 he hus
              go_wp2
              go_roundw
              case rel => exact ⟨j + 1, by omega, by go_num, K1.out, K2.out, K3.out⟩
              case measure => simp [intOf]; omega
            · have hsd := Lib.hid (hsd (by omega))
              have hU2 := Lib.hid (show uL xs ((j + 1 + 1) / 2) = uL xs ((j + 1) / 2) by rw [show (j + 1 + 1) / 2 = (j + 1) / 2 by omega])
              have hev : (((j : Int) % 2) == 0) = false := by simp; omega
              have hevt : (((j : Int).tmod 2) == 0) = false := by rw [Int.tmod_eq_emod_of_nonneg (by omega)]; exact hev
              have hul := Lib.hid (show (dL xs (j / 2)).length = k by rw [dL_len]; exact hL.out)
              obtain ⟨us, hus⟩ : ∃ us, dL xs (j / 2) = us := ⟨_, rfl⟩
              rw [hus] at hV hul hsd
              have u1 := hV.cell x1.toNat
              rw [icells_get _ _ (by rw [hul.out]; omega)] at u1
              have fu1 := hV.free x1.toNat
              have hU1 := hV.set x1.toNat (.int .i64 x3)
              have u2 := hU1.cell x3.toNat
              rw [icells_set, icells_get _ _ (by rw [List.length_set, hul.out]; omega)] at u2
              have fu2 := hU1.free x3.toNat
              have hU3 := hU1.set x3.toNat (.int .i64 x1)
              rw [icells_set, icells_set] at hU3
              have K1 := Lib.hid (show Own ((wr.setCell ⟨gl, x1.toNat, none⟩ (.int .i64 x3)).setCell ⟨gl, x3.toNat, none⟩ (.int .i64 x1)) gl (icells (dL xs ((j + 1) / 2))) 2 by rw [hsd.out]; exact hU3)
              have K2 := Lib.hid ((hU.other (a := ⟨gl, x1.toNat, none⟩) hne.symm (.int .i64 x3)).other (a := ⟨gl, x3.toNat, none⟩) hne.symm (.int .i64 x1))
              rw [← hU2.out] at K2
              have K3 := Lib.hid ((hB.setCell (p := ⟨gl, x1.toNat, none⟩) gl0 (.int .i64 x3)).setCell (p := ⟨gl, x3.toNat, none⟩) gl0 (.int .i64 x1))
              have k1 := hCX.out _ (hB.setCell (p := ⟨gl, x1.toNat, none⟩) gl0 (.int .i64 x3)) j hlt
              rw [HX1.out] at k1
              clear hU hV hU1 hU3 hsu hx1 hx3 hq3 he hus
              go_wp2
              go_roundw
              case rel => exact ⟨j + 1, by omega, by go_num, K2.out, K1.out, K3.out⟩
              case measure => simp [intOf]; omega
          · have ej : j = k := by omega
            have HU := Lib.hid (show Own wr gu (icells U) 2 by rw [← hUU.out, ← show (j + 1) / 2 = k / 2 by omega]; exact hU)
            have HV := Lib.hid (show Own wr gl (icells V) 2 by rw [← hVV.out, ← show j / 2 = k / 2 by omega]; exact hV)
            clear hU hV
            cases b1 <;> cases b2 <;>
            · go_wp2_with (first
                | (go_at_call 9; ((with_reducible refine (htu.out gu wr HU.out).mono ?_); rintro e w8 ⟨rfl, hB8⟩))
                | (go_at_call 9; ((with_reducible refine (htd.out gl w8 (HV.out.below hB8 HV.out.lt)).mono ?_); rintro e w9 ⟨rfl, hB9⟩)))
              have b8 := hB.trans (hB8.mono hB.size)
              have b9 := b8.trans (hB9.mono b8.size)
              go_ret3
              exact ⟨rfl, b9⟩
end Go.Proofs.Ytbpecjfiilkobaa
