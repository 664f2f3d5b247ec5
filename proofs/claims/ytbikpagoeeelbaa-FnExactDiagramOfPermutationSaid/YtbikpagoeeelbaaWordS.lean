/- Contracts of the model's words. -/
import Derived.Test.YtbikpagoeeelbaaWordI
import Derived.Test.YtbikpagoeeelbaaMulS
import Derived.Test.YtbikpagoeeelbaaInv
namespace Go.Proofs.Ytbikpagoeeelbaa
open Go.RowKit
set_option linter.unusedVariables false
set_option maxRecDepth 100000 in
set_option maxHeartbeats 1000000 in
theorem valueS_any (n : Int) (p : Option Addr) (cap : Nat) (xs : List Int) (w : World) (h1 : 1 ≤ n) (h8 : n ≤ 8) (hx : xs.length ≤ 1000) (hok : ∀ x ∈ xs, 0 ≤ x ∧ x ≤ n - 2) (hR : Rd w p xs) :
    Calls Try.prog 57 #[.int .i64 n, .slice p xs.length cap] w fun e w' => e = .returned (.tuple #[.agg (dcells n (valW n xs).1), .int .i64 (valW n xs).2]) ∧ Below w.heap.size w w' := by
  obtain ⟨m, hm⟩ : ∃ m, xs.length = m := ⟨_, rfl⟩
  have hR' := Lib.hid hR
  have hN := Lib.hid hm
  have hOK := Lib.hid hok
  have h1l := Lib.hid (oneL_len n n.toNat)
  have hun := Lib.hid (fun w => oneS_any n w h1 h8)
  obtain ⟨V, hV⟩ : ∃ V, valW n xs = V := ⟨_, rfl⟩
  have hVV := Lib.hid hV
  rw [hV]
  rw [hm] at hx ⊢
  clear hR hm hok hV
  go_enter Try.func57, Try.ntmps57
  go_wp2_with (first
    | (go_at_call 67; ((with_reducible refine (hun.out _).mono ?_); rintro e w1 ⟨rfl, hB1⟩))
    | (refine wpList_store_own rfl 43 _ _ rfl _ _ rfl rfl 43 _ (Own.new w1 _ _) (row26 (d17 _ _ (h1l.out))) (z_eq (d17 _ _ h1l.out)) (dcells_one _ _) ?_; intro w2 hO2 hN2))
  have b0 : Below w.heap.size w (w.alloc (.cells zcells 43)) := (Below.refl _ _).alloc (Nat.le_refl _) _
  have b1 := b0.trans (hB1.mono b0.size)
  have hsz := hB1.size
  have hsz' : w.heap.size + 1 ≤ w1.heap.size := by simpa using hsz
  have hB2 : Below w.heap.size w w2 := (b1.alloc b1.size _).trans (hN2.below.mono b1.size)
  have hZ2 : Own w2 w.heap.size zcells 43 := (((Own.new w _ _).below hB1 (by simp)).alloc _).only hN2 (by omega)
  clear b0 b1 hN2 hun hB1 hsz
  obtain ⟨g, hg⟩ : ∃ g, w1.heap.size = g := ⟨_, rfl⟩
  rw [hg] at hO2 hsz' ⊢
  go_wp2
  go_loopw [7, 8] (fun t i wr => ∃ k : Nat, k ≤ m ∧ i = .int .i64 k ∧ t = .int .i64 (valW n (xs.take k)).2 ∧ Own wr g (dcells n (valW n (xs.take k)).1) 43 ∧ Own wr w.heap.size zcells 43 ∧ Below w.heap.size w wr) (fun _ i _ => ((m : Int) - intOf i).toNat)
  case atStart => exact ⟨0, by omega, rfl, rfl, hO2, hZ2, hB2⟩
  case round =>
    clear hO2 hZ2 hB2
    obtain ⟨k, hk, rfl, rfl, hO, hZ, hB⟩ := hrel
    have hok2 := valW_ok n (xs.take k) h1 h8 (fun x hx => hOK.out x (List.mem_of_mem_take hx))
    have htl : (xs.take k).length = k := by rw [List.length_take]; have := hN.out; omega
    rw [htl] at hok2
    by_cases hlt : k < m
    · have hks : k < xs.length := by have := hN.out; omega
      obtain ⟨ad, rfl⟩ := rd_some hR'.out hks
      have hst := Lib.hid (valW_take n xs k hks)
      obtain ⟨x, hxx⟩ : ∃ x, xs.getD k 0 = x := ⟨_, rfl⟩
      have hxb := hOK.out x (by rw [← hxx, List.getD_eq_getElem?_getD, List.getElem?_eq_getElem hks]; exact List.getElem_mem hks)
      rw [hxx] at hst
      obtain ⟨x0, x2⟩ := hxb
      have n2 : 2 ≤ n := by omega
      have hgen := Lib.hid (fun w => cupS_any n x w n2 h8 x0 x2)
      have hge := cup_ok n x n2 h8 x0 x2
      have hlg := Lib.hid (cupL_len n x)
      obtain ⟨ms, t, hmt⟩ : ∃ ms t, valW n (xs.take k) = (ms, t) := ⟨_, _, rfl⟩
      rw [hmt] at hO hok2 hst ⊢
      dsimp only at hO hok2 ⊢
      obtain ⟨q1, q2, q3, q4, q5⟩ := hok2
      have hpr := Lib.hid (fun w => timesS_any n ms (cupL n x) q1 hlg.out q2 hge.1 q3 hge.2 w)
      have hpl := Lib.hid (prodL_len n (mate ms) (mate (cupL n x)))
      have hst2 := Lib.hid (show valW n (xs.take (k + 1)) = (prodL n (mate ms) (mate (cupL n x)), t + loopsP n (mate ms) (mate (cupL n x))) from hst.out)
      have lb := loops_bd n (mate ms) (mate (cupL n x)) h1 h8
      generalize prodL n (mate ms) (mate (cupL n x)) = pr at hpr hpl hst2
      generalize loopsP n (mate ms) (mate (cupL n x)) = lc at hpr hst2 lb
      generalize cupL n x = ge at hgen hlg hpr
      obtain ⟨l0, l8⟩ := lb
      have q4' : 0 ≤ t := q4
      have q5' : t ≤ 8 * (k : Int) := q5
      have hml := Lib.hid q1
      have i1 : (k : Int) < (m : Int) := by omega
      have glt := hO.lt
      have hsz := hB.size
      have hxx' := Lib.hid hxx
      clear q1 q2 q3 q4 q5 hge hmt htl hst hxx
      go_wp2
      have hOd : Own wr.drew g (dcells n ms) 43 := hO
      have hZd : Own wr.drew w.heap.size zcells 43 := hZ
      have hRd : Rd wr.drew (some ad) xs := ⟨fun a e j hj => (hR'.out.below hB).cell a e j hj, fun e => by cases e⟩
      have hBd : Below w.heap.size w wr.drew := hB.drew
      have hsd : wr.drew.heap.size = wr.heap.size := rfl
      obtain ⟨wd, hwd⟩ : ∃ wd, wr.drew = wd := ⟨_, rfl⟩
      rw [hwd] at hOd hZd hRd hBd hsd
      have hOl := hOd.lt
      have hZl := hZd.lt
      clear hO hZ hB
      refine wp_region_facts (by kernel_rfl) (by kernel_rfl) (fun a w' => ∃ x9 x10 x19 x20 x21 x22 x23 x24 x25 x26 x27 x28 x29 : Value, a = ⟨List.toArray [.int .i64 n, .slice (some ad) m cap, undef, undef, .pointer (some ⟨w.heap.size, 0, none⟩), .int .i64 0, .pointer (some ⟨g, 0, none⟩), .int .i64 t, .int .i64 k, x9, x10, .int .i64 n, .agg (dcells n (oneL n n.toNat)), .int .i64 k, .slice (some ad) m cap, .int .i64 m, .bool true, u17, u18, x19, x20, x21, x22, x23, x24, x25, x26, x27, x28, x29, u30, u31, u32, u33, undef, undef], []⟩ ∧ Below wd.heap.size wd w') (fun j a w' => match j with | 0 => sl a 20 = .agg (dcells n ms) | 1 => sl a 21 = .int .i64 n | 2 => sl a 22 = .slice (some ad) m cap | 3 => sl a 23 = .int .i64 k | 4 => sl a 24 = .pointer (some (ad.add k)) | 5 => sl a 25 = .int .i64 x | 6 => sl a 26 = .agg (dcells n ge) | 7 => sl a 27 = .tuple #[.agg (dcells n pr), .int .i64 lc] | 8 => sl a 19 = .tuple #[.agg (dcells n pr), .int .i64 lc] | 9 => sl a 28 = .agg (dcells n pr) | 10 => sl a 29 = .int .i64 lc | 11 => ∃ g, wd.heap.size ≤ g ∧ sl a 9 = .pointer (some ⟨g, 0, none⟩) ∧ ∃ cs, cs.size = 17 ∧ Own w' g cs 43 | 12 => ∃ g, wd.heap.size ≤ g ∧ sl a 9 = .pointer (some ⟨g, 0, none⟩) ∧ Own w' g (dcells n pr) 43 | 13 => sl a 10 = .int .i64 lc | _ => True) ⟨_, _, _, _, _, _, _, _, _, _, _, _, _, rfl, by rw [← hwd]; exact Below.refl _ _⟩ ?_ ?_
      · refine (AllOps.cons ?_ (AllOps.cons ?_ (AllOps.cons ?_ (AllOps.cons ?_ (AllOps.cons ?_ (AllOps.cons ?_ (AllOps.cons ?_ (AllOps.cons ?_ (AllOps.cons ?_ (AllOps.cons ?_ (AllOps.cons ?_ (AllOps.cons ?_ (AllOps.cons ?_ (AllOps.cons ?_ AllOps.nil))))))))))))))
        · rintro a w0 ⟨x9, x10, x19, x20, x21, x22, x23, x24, x25, x26, x27, x28, x29, rfl, hB⟩ hd K hK
          go_wp2_with (first | (refine wpList_load_row rfl 43 _ rfl _ rfl 43 _ (0, 0) _ (hOd.below hB hOl) Try.underlying43 rfl (row26 (d17 _ _ (hml.out))) ?_))
          refine hK _ _ ⟨_, _, _, _, _, _, _, _, _, _, _, _, _, rfl, hB⟩ (rfl) ?_
          rintro (_|_|_|_|_|_|_|_|_|_|_|_|_|_|_) hj hn h <;> first | exact h | exact absurd rfl hj | exact waits_no hn (by kernel_rfl)
        · rintro a w0 ⟨x9, x10, x19, x20, x21, x22, x23, x24, x25, x26, x27, x28, x29, rfl, hB⟩ hd K hK
          go_wp2
          refine hK _ _ ⟨_, _, _, _, _, _, _, _, _, _, _, _, _, rfl, hB⟩ (rfl) ?_
          rintro (_|_|_|_|_|_|_|_|_|_|_|_|_|_|_) hj hn h <;> first | exact h | exact absurd rfl hj | exact waits_no hn (by kernel_rfl)
        · rintro a w0 ⟨x9, x10, x19, x20, x21, x22, x23, x24, x25, x26, x27, x28, x29, rfl, hB⟩ hd K hK
          go_wp2
          refine hK _ _ ⟨_, _, _, _, _, _, _, _, _, _, _, _, _, rfl, hB⟩ (rfl) ?_
          rintro (_|_|_|_|_|_|_|_|_|_|_|_|_|_|_) hj hn h <;> first | exact h | exact absurd rfl hj | exact waits_no hn (by kernel_rfl)
        · rintro a w0 ⟨x9, x10, x19, x20, x21, x22, x23, x24, x25, x26, x27, x28, x29, rfl, hB⟩ hd K hK
          go_wp2
          refine hK _ _ ⟨_, _, _, _, _, _, _, _, _, _, _, _, _, rfl, hB⟩ (rfl) ?_
          rintro (_|_|_|_|_|_|_|_|_|_|_|_|_|_|_) hj hn h <;> first | exact h | exact absurd rfl hj | exact waits_no hn (by kernel_rfl)
        · rintro a w0 ⟨x9, x10, x19, x20, x21, x22, x23, x24, x25, x26, x27, x28, x29, rfl, hB⟩ hd K hK
          have d0 : x22 = _ := hd 2 (by kernel_rfl)
          have d1 : x23 = _ := hd 3 (by kernel_rfl)
          subst d0 d1
          go_wp2
          refine hK _ _ ⟨_, _, _, _, _, _, _, _, _, _, _, _, _, rfl, hB⟩ (rfl) ?_
          rintro (_|_|_|_|_|_|_|_|_|_|_|_|_|_|_) hj hn h <;> first | exact h | exact absurd rfl hj | exact waits_no hn (by kernel_rfl)
        · rintro a w0 ⟨x9, x10, x19, x20, x21, x22, x23, x24, x25, x26, x27, x28, x29, rfl, hB⟩ hd K hK
          have d0 : x24 = _ := hd 4 (by kernel_rfl)
          subst d0
          have c1 := (hRd.below hB).cell ad rfl k hks
          rw [hxx'.out] at c1
          go_wp2
          refine hK _ _ ⟨_, _, _, _, _, _, _, _, _, _, _, _, _, rfl, hB⟩ (rfl) ?_
          rintro (_|_|_|_|_|_|_|_|_|_|_|_|_|_|_) hj hn h <;> first | exact h | exact absurd rfl hj | exact waits_no hn (by kernel_rfl)
        · rintro a w0 ⟨x9, x10, x19, x20, x21, x22, x23, x24, x25, x26, x27, x28, x29, rfl, hB⟩ hd K hK
          have d0 : x21 = _ := hd 1 (by kernel_rfl)
          have d1 : x25 = _ := hd 5 (by kernel_rfl)
          subst d0 d1
          go_wp2_with (first | (go_at_call 69; ((with_reducible refine (hgen.out _).mono ?_); rintro e w2 ⟨rfl, hB2⟩)))
          refine hK _ _ ⟨_, _, _, _, _, _, _, _, _, _, _, _, _, rfl, hB.trans (hB2.mono hB.size)⟩ (rfl) ?_
          rintro (_|_|_|_|_|_|_|_|_|_|_|_|_|_|_) hj hn h <;> first | exact h | exact absurd rfl hj | (obtain ⟨g, hg, e, cs, hcs, hO⟩ := h; exact ⟨g, hg, e, cs, hcs, hO.below hB2 hO.lt⟩) | (obtain ⟨g, hg, e, hO⟩ := h; exact ⟨g, hg, e, hO.below hB2 hO.lt⟩) | exact waits_no hn (by kernel_rfl)
        · rintro a w0 ⟨x9, x10, x19, x20, x21, x22, x23, x24, x25, x26, x27, x28, x29, rfl, hB⟩ hd K hK
          have d0 : x20 = _ := hd 0 (by kernel_rfl)
          have d1 : x26 = _ := hd 6 (by kernel_rfl)
          subst d0 d1
          go_wp2_with (first | (go_at_call 68; ((with_reducible refine (hpr.out _).mono ?_); rintro e w2 ⟨rfl, hB2⟩)))
          refine hK _ _ ⟨_, _, _, _, _, _, _, _, _, _, _, _, _, rfl, hB.trans (hB2.mono hB.size)⟩ (rfl) ?_
          rintro (_|_|_|_|_|_|_|_|_|_|_|_|_|_|_) hj hn h <;> first | exact h | exact absurd rfl hj | (obtain ⟨g, hg, e, cs, hcs, hO⟩ := h; exact ⟨g, hg, e, cs, hcs, hO.below hB2 hO.lt⟩) | (obtain ⟨g, hg, e, hO⟩ := h; exact ⟨g, hg, e, hO.below hB2 hO.lt⟩) | exact waits_no hn (by kernel_rfl)
        · rintro a w0 ⟨x9, x10, x19, x20, x21, x22, x23, x24, x25, x26, x27, x28, x29, rfl, hB⟩ hd K hK
          have d0 : x27 = _ := hd 7 (by kernel_rfl)
          subst d0
          go_wp2
          refine hK _ _ ⟨_, _, _, _, _, _, _, _, _, _, _, _, _, rfl, hB⟩ (rfl) ?_
          rintro (_|_|_|_|_|_|_|_|_|_|_|_|_|_|_) hj hn h <;> first | exact h | exact absurd rfl hj | exact waits_no hn (by kernel_rfl)
        · rintro a w0 ⟨x9, x10, x19, x20, x21, x22, x23, x24, x25, x26, x27, x28, x29, rfl, hB⟩ hd K hK
          have d0 : x19 = _ := hd 8 (by kernel_rfl)
          subst d0
          go_wp2
          refine hK _ _ ⟨_, _, _, _, _, _, _, _, _, _, _, _, _, rfl, hB⟩ (rfl) ?_
          rintro (_|_|_|_|_|_|_|_|_|_|_|_|_|_|_) hj hn h <;> first | exact h | exact absurd rfl hj | exact waits_no hn (by kernel_rfl)
        · rintro a w0 ⟨x9, x10, x19, x20, x21, x22, x23, x24, x25, x26, x27, x28, x29, rfl, hB⟩ hd K hK
          have d0 : x19 = _ := hd 8 (by kernel_rfl)
          subst d0
          go_wp2
          refine hK _ _ ⟨_, _, _, _, _, _, _, _, _, _, _, _, _, rfl, hB⟩ (rfl) ?_
          rintro (_|_|_|_|_|_|_|_|_|_|_|_|_|_|_) hj hn h <;> first | exact h | exact absurd rfl hj | exact waits_no hn (by kernel_rfl)
        · rintro a w0 ⟨x9, x10, x19, x20, x21, x22, x23, x24, x25, x26, x27, x28, x29, rfl, hB⟩ hd K hK
          go_wp2
          refine hK _ _ ⟨_, _, _, _, _, _, _, _, _, _, _, _, _, rfl, hB.alloc hB.size _⟩ (⟨_, hB.size, rfl, _, rfl, Own.new _ _ _⟩) ?_
          rintro (_|_|_|_|_|_|_|_|_|_|_|_|_|_|_) hj hn h <;> first | exact h | exact absurd rfl hj | exact waits_no hn (by kernel_rfl)
        · rintro a w0 ⟨x9, x10, x19, x20, x21, x22, x23, x24, x25, x26, x27, x28, x29, rfl, hB⟩ hd K hK
          have d0 : x28 = _ := hd 9 (by kernel_rfl)
          have d8 := hd 11 (by kernel_rfl)
          obtain ⟨g1, hg1, e, cs, hcs, hO1⟩ := d8
          have e : x9 = _ := e
          subst d0 e
          go_wp2_with (first | (refine wpList_store_own rfl 43 _ _ rfl _ _ rfl rfl 43 _ (hO1) (row26 (d17 _ _ (hpl.out))) (by rw [hcs, d17 _ _ hpl.out]) (dcells_one _ _) ?_; intro w2 hO2 hN2))
          refine hK _ _ ⟨_, _, _, _, _, _, _, _, _, _, _, _, _, rfl, hB.trans (hN2.below.mono hg1)⟩ (⟨g1, hg1, rfl, hO2⟩) ?_
          rintro (_|_|_|_|_|_|_|_|_|_|_|_|_|_|_) hj hn h <;> first | exact h | exact absurd rfl hj | exact ⟨g1, hg1, rfl, _, d17 _ _ hpl.out, hO2⟩ | exact waits_no hn (by kernel_rfl)
        · rintro a w0 ⟨x9, x10, x19, x20, x21, x22, x23, x24, x25, x26, x27, x28, x29, rfl, hB⟩ hd K hK
          have d0 : x29 = _ := hd 10 (by kernel_rfl)
          subst d0
          go_wp2
          refine hK _ _ ⟨_, _, _, _, _, _, _, _, _, _, _, _, _, rfl, hB⟩ (rfl) ?_
          rintro (_|_|_|_|_|_|_|_|_|_|_|_|_|_|_) hj hn h <;> first | exact h | exact absurd rfl hj | exact waits_no hn (by kernel_rfl)
      · rintro a w3 ⟨x9, x10, x19, x20, x21, x22, x23, x24, x25, x26, x27, x28, x29, rfl, hB⟩ hF
        have e0 : x10 = _ := hF 13 (by decide)
        obtain ⟨g1, hg1, e, hOg1⟩ := hF 12 (by decide)
        have e : x9 = _ := e
        subst e e0
        have hO3 := hOd.below hB hOl
        have hZ3 := hZd.below hB hZl
        have hB3 := hBd.trans (hB.mono hBd.size)
        clear hwd
        go_wp2_with (first
          | (refine wpList_load_row rfl 43 _ rfl _ rfl 43 _ (0, 0) _ (hOg1) Try.underlying43 rfl (row26 (d17 _ _ (hpl.out))) ?_)
          | (refine wpList_store_own rfl 43 _ _ rfl _ _ rfl rfl 43 _ (hO3) (row26 (d17 _ _ (hpl.out))) (dd _ _ _ _ hml.out hpl.out) (dcells_one _ _) ?_; intro w7 hO7 hN7))
        go_roundw
        case rel => exact ⟨k + 1, by omega, by go_num, by rw [hst2.out], by rw [hst2.out]; exact hO7, hZ3.only hN7 (by omega), hB3.trans (hN7.below.mono (by omega))⟩
        case measure => simp [intOf]; omega
    · have hk2 : k = m := by omega
      subst hk2
      have e : valW n (xs.take k) = V := by rw [List.take_of_length_le (by have := hN.out; omega)]; exact hVV.out
      rw [e] at hO hok2 ⊢
      obtain ⟨q1, q2, q3, q4, q5⟩ := hok2
      have hml := Lib.hid q1
      clear q1 q2 q3 e
      go_wp2_with (first
        | (refine wpList_load_row rfl 43 _ rfl _ rfl 43 _ (0, 0) _ (hO) Try.underlying43 rfl (row26 (d17 _ _ (hml.out))) ?_)
        | (refine wpList_store_own rfl 43 _ _ rfl _ _ rfl rfl 43 _ (hZ) (row26 (d17 _ _ (hml.out))) (z_eq (d17 _ _ hml.out)) (dcells_one _ _) ?_; intro w7 hO7 hN7))
      refine bodyPost_ret (v := .tuple #[.agg (dcells n V.1), .int .i64 V.2]) (results_row_tmp rfl _ _ _ _ _ (0, 0) _ rfl (hO7) Try.underlying43 rfl (row26 (d17 _ _ (hml.out))) _ rfl) rfl (⟨rfl, hB.trans (hN7.below.mono (by omega))⟩)
end Go.Proofs.Ytbikpagoeeelbaa
