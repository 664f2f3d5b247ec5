/- The program's theta numbers: the walk. -/
import Derived.Test.YtmcffhafonemeaaTheI
namespace Go.Proofs.Ytmcffhafonemeaa
open Go.RowKit
set_option linter.unusedVariables false
/-- The program's theta number, as it goes. -/
def thI (p c x y v : Int) : Int := fold p (fold p (gz p c (x + y + v)) ([x, y, v].map fun k => gz p c (k - 1))) ([y + v, v + x, x + y].map fun k => rcp p (gz p c (k - 1)))
theorem get3 (x y v : Int) (lo hi : Int) (hx : lo ≤ x ∧ x ≤ hi) (hy : lo ≤ y ∧ y ≤ hi) (hv : lo ≤ v ∧ v ≤ hi) (k : Nat) (hk : k < 3) : lo ≤ [x, y, v].getD k 0 ∧ [x, y, v].getD k 0 ≤ hi := by
  match k, hk with
  | 0, _ => exact hx
  | 1, _ => exact hy
  | 2, _ => exact hv
set_option maxRecDepth 100000 in
set_option maxHeartbeats 2000000 in
theorem theI_ok (p c a b d x y v : Int) (w : World) (hm : modB p c = true) (hL : labB (fz p c) [a, b, d] = true) (hA : admB (fz p c) a b d = true) (ex : (a + b - d) / 2 = x) (ey : (b + d - a) / 2 = y) (ev : (d + a - b) / 2 = v) :
    Calls Try.prog 6 #[.int .i64 p, .int .i64 c, .int .i64 a, .int .i64 b, .int .i64 d] w fun e w' => e = .returned (.tuple #[.int .i64 (thI p c x y v), .int .i64 0]) ∧ Below w.heap.size w w' := by
  obtain ⟨hpr, hp, hp2, hc0, hc1⟩ := modB_spec hm
  obtain ⟨z0, z1, z97⟩ := has_zero p c hpr hc0 hc1
  obtain ⟨⟨a0, a1⟩, ⟨b0, b1⟩, d0, d1⟩ := labB_three hL
  have hA' := hA
  unfold admB at hA'
  rw [decide_eq_true_iff] at hA'
  obtain ⟨m2, t1, t2, t3, t4⟩ := hA'
  have hia := isadI_ok p c a b d w hm
  rw [hL, hA, Bool.and_self, if_pos rfl] at hia
  have hia' := Lib.hid hia
  have x0 : 0 ≤ x := by omega
  have y0 : 0 ≤ y := by omega
  have v0 : 0 ≤ v := by omega
  have x9 : x ≤ 96 := by omega
  have y9 : y ≤ 96 := by omega
  have v9 : v ≤ 96 := by omega
  have q1 : 0 ≤ a + b - d := by omega
  have q2 : 0 ≤ b + d - a := by omega
  have q3 : 0 ≤ d + a - b := by omega
  have hrec := fun w1 => recI_any p c hc0 hc1 w1
  unfold nfun pfun at hrec
  have hrec' := Lib.hid hrec
  have hpd := Lib.hid (fun (base : Nat) (B : ChB) (k : Int) (hk : k ≤ 1000) (j0 : Nat) (hj : 1 ≤ j0) (hj2 : j0 ≤ 1100) (w1 w2 : World) (hw : base = w1.heap.size) (hB : Below base w1 w2) (hT : ChT w2 base B p c (j0 + 1)) => prodI_int base B p c hp hp2 hc0 hc1 k hk j0 hj hj2 w2 hT (by have := hB.size; omega))
  have hrc := Lib.hid (fun (x : Int) (h0 : 0 ≤ x) (h1 : x < p) (w1 : World) => rcpI_any p x w1 hp hp2 h0 h1)
  have hgr := Lib.hid (fun k => gz_range p c k hp)
  have EX := Lib.hid ex
  have EY := Lib.hid ey
  have EV := Lib.hid ev
  clear hia hrec hL hA m2 t1 t2 t3 hm hpr z0
  go_enter Try.func6, Try.ntmps6
  go_wp2_with (first
    | (go_at_call 8; ((with_reducible refine (hia'.out).mono ?_); rintro e w1 ⟨rfl, hB1⟩))
    | (go_at_call 28; ((with_reducible refine (hrec'.out w1).mono ?_); rintro e w2 ⟨B, rfl, hT, hks, hB2⟩))
    | (go_at_call 47; ((with_reducible refine (hpd.out _ B _ (by omega) 1 (by omega) (by omega) w1 w2 rfl hB2 hT).mono ?_); rintro e w3 ⟨rfl, ⟨j, j1, j2, hT3⟩, hB3⟩)))
  clear ex ey ev q1 q2 q3 hks hT hia' hrec'
  have hB23 := hB2.trans hB3
  have hT4 := hT3.add (icells [x, y, v])
  have hB4 := hB23.alloc hB23.size (.cells (icells [x, y, v]) 2)
  have hg1 := Lib.hid (get3 x y v 0 200 (by omega) (by omega) (by omega))
  have ht0 := hgr.out (x + y + v)
  clear hT3 hB3 hB2 hB23
  generalize hbl : w3.heap.size = bl at *
  obtain ⟨xs, hxs⟩ : ∃ xs, [x, y, v] = xs := ⟨_, rfl⟩
  have hxl : xs.length = 3 := by rw [← hxs]; rfl
  obtain ⟨B1, hB1'⟩ : ∃ B1 : ChB, { B with ks := (bl, icells xs) :: B.ks } = B1 := ⟨_, rfl⟩
  rw [hxs] at hg1
  rw [show (icells [x, y, v]) = icells xs by rw [hxs]] at hT4 hB4
  rw [show ({ B with ks := (bl, icells xs) :: B.ks } : ChB) = B1 from hB1'] at hT4
  have hpb : B1.pb = B.pb := by rw [← hB1']
  have hnb : B1.nb = B.nb := by rw [← hB1']
  have hbp : B1.bp = B.bp := by rw [← hB1']
  have HPB := Lib.hid (And.intro hpb (And.intro hnb hbp))
  have hkq : (bl, icells xs) ∈ B1.ks := by rw [← hB1']; exact List.mem_cons_self ..
  have hpd1 := Lib.hid (fun (k : Int) (hk : k ≤ 1000) (j0 : Nat) (hj : 1 ≤ j0) (hj2 : j0 ≤ 1100) (w2 : World) (hB : Below w1.heap.size w1 w2) (hT : ChT w2 w1.heap.size B1 p c (j0 + 1)) => (show Calls Try.prog 47 #[.int .i64 k, .pointer (some ⟨B.pb, 0, none⟩), .pointer (some ⟨B.nb, 0, none⟩), .pointer (some ⟨B.bp, 0, none⟩)] w2 fun e w' => e = .returned (.int .i64 (gz p c k)) ∧ ChS w1.heap.size B1 p c j0 w2 w' from by
    rw [← hpb, ← hnb, ← hbp]; exact hpd.out _ B1 k hk j0 hj hj2 w1 w2 rfl hB hT))
  have e0 : (p == 0) = false := by simp; omega
  have hfs := Lib.hid (fun k hk => fold_step p (gz p c (x + y + v)) (fun k => gz p c (k - 1)) xs k hk)
  have hfr := Lib.hid (fun l => fold_range p (gz p c (x + y + v)) hp ht0.1 ht0.2 l)
  have hkq' := Lib.hid hkq
  have HXS := Lib.hid hxs
  have HXL := Lib.hid hxl
  have HS4 : Hid (ChS w1.heap.size B1 p c 1 w1 (w3.alloc (.cells #[.int .i64 x, .int .i64 y, .int .i64 v] 2))) := Lib.hid (by
    rw [show (#[.int .i64 x, .int .i64 y, .int .i64 v] : Array Value) = icells xs by rw [← hxs]; rfl]
    exact ⟨⟨j, j1, j2, hT4⟩, hB4⟩)
  generalize w3.alloc (.cells #[.int .i64 x, .int .i64 y, .int .i64 v] 2) = w4 at *
  clear hB1' hpb hnb hbp hkq hxs hxl hT4 hB4 hbl ht0 j1 j2
  obtain ⟨t0, ht⟩ : ∃ t0, gz p c (x + y + v) = t0 := ⟨_, rfl⟩
  rw [ht] at hfs hfr ⊢
  have HT := Lib.hid ht
  clear ht
  go_loopw [19, 74] (fun th i wr => ∃ k : Nat, k ≤ 3 ∧ i = .int .i64 k ∧ th = .int .i64 (fold p t0 ((xs.take k).map fun k => gz p c (k - 1))) ∧ ChS w1.heap.size B1 p c 1 w1 wr) (fun _ i _ => (3 - intOf i).toNat)
  case atStart => exact ⟨0, by omega, rfl, rfl, HS4.out⟩
  case round =>
    clear HS4
    obtain ⟨k, hk, rfl, rfl, hS⟩ := hrel
    by_cases hlt : k < 3
    · obtain ⟨⟨j, j1, j2, hT⟩, hB⟩ := hS
      have hlx : k < xs.length := by rw [HXL.out]; exact hlt
      have c1 := (hT.kept hkq'.out).cell k
      rw [icells_get _ _ hlx] at c1
      have g1 := hg1.out k hlt
      have hst := hfs.out k hlx
      have r1 := hfr.out ((xs.take k).map fun k => gz p c (k - 1))
      have r2 := hgr.out (xs.getD k 0 - 1)
      have hcl := Lib.hid (hpd1.out (xs.getD k 0 - 1) (by omega) j j1 j2 wr hB hT)
      generalize fold p t0 ((xs.take k).map fun k => gz p c (k - 1)) = T1 at *
      generalize xs.getD k 0 = E at *
      generalize gz p c (E - 1) = G at *
      have m1 := bnd_mul p T1 G 0 hp hp2 r1.1 r1.2 r2.1 r2.2
      have hst' := Lib.hid hst
      clear hT hst hlx
      go_wp2_with (first
        | (go_at_call 47; ((with_reducible refine (hcl.out).mono ?_); rintro e w6 ⟨rfl, hS6⟩)))
      go_roundw
      case rel => exact ⟨k + 1, by omega, by go_num, by rw [hst'.out], hS6.trans hB j1⟩
      case measure => simp [intOf]; omega
    · obtain rfl : k = 3 := by omega
      rw [List.take_of_length_le (by rw [HXL.out]; omega)]
      rw [show ((3 : Nat) : Int) = 3 from rfl]
      have ht1 := hfr.out (xs.map fun k => gz p c (k - 1))
      clear hfs hfr
      obtain ⟨t1, ht⟩ : ∃ t1, fold p t0 (xs.map fun k => gz p c (k - 1)) = t1 := ⟨_, rfl⟩
      rw [ht] at ht1 ⊢
      have HT1 := Lib.hid ht
      clear ht hpd1 hkq' HXL hg1
      obtain ⟨⟨j, j1, j2, hT⟩, hB⟩ := hS
      have hw4 := hB.size
      go_wp2
      have hT4 := hT.add (icells [y + v, v + x, x + y])
      have hB4 := hB.alloc hB.size (.cells (icells [y + v, v + x, x + y]) 2)
      have hg1 := Lib.hid (get3 (y + v) (v + x) (x + y) 0 200 (by omega) (by omega) (by omega))
      clear hT hB hw4
      generalize hbl : wr.heap.size = bl2 at *
      obtain ⟨ys, hys⟩ : ∃ ys, [y + v, v + x, x + y] = ys := ⟨_, rfl⟩
      have hyl : ys.length = 3 := by rw [← hys]; rfl
      obtain ⟨B2, hB2'⟩ : ∃ B2 : ChB, { B1 with ks := (bl2, icells ys) :: B1.ks } = B2 := ⟨_, rfl⟩
      rw [hys] at hg1
      rw [show (icells [y + v, v + x, x + y]) = icells ys by rw [hys]] at hT4 hB4
      rw [show ({ B1 with ks := (bl2, icells ys) :: B1.ks } : ChB) = B2 from hB2'] at hT4
      have hpb : B2.pb = B.pb := by rw [← hB2', ← HPB.out.1]
      have hnb : B2.nb = B.nb := by rw [← hB2', ← HPB.out.2.1]
      have hbp : B2.bp = B.bp := by rw [← hB2', ← HPB.out.2.2]
      have hkq : (bl2, icells ys) ∈ B2.ks := by rw [← hB2']; exact List.mem_cons_self ..
      have hpd1 := Lib.hid (fun (k : Int) (hk : k ≤ 1000) (j0 : Nat) (hj : 1 ≤ j0) (hj2 : j0 ≤ 1100) (w2 : World) (hB : Below w1.heap.size w1 w2) (hT : ChT w2 w1.heap.size B2 p c (j0 + 1)) => (show Calls Try.prog 47 #[.int .i64 k, .pointer (some ⟨B.pb, 0, none⟩), .pointer (some ⟨B.nb, 0, none⟩), .pointer (some ⟨B.bp, 0, none⟩)] w2 fun e w' => e = .returned (.int .i64 (gz p c k)) ∧ ChS w1.heap.size B2 p c j0 w2 w' from by
        rw [← hpb, ← hnb, ← hbp]; exact hpd.out _ B2 k hk j0 hj hj2 w1 w2 rfl hB hT))
      have hfs := Lib.hid (fun k hk => fold_step p t1 (fun k => rcp p (gz p c (k - 1))) ys k hk)
      have hfr := Lib.hid (fun l => fold_range p t1 hp ht1.1 ht1.2 l)
      have hkq' := Lib.hid hkq
      have HYS := Lib.hid hys
      have HYL := Lib.hid hyl
      have HS4 : Hid (ChS w1.heap.size B2 p c 1 w1 (wr.alloc (.cells #[.int .i64 (y + v), .int .i64 (v + x), .int .i64 (x + y)] 2))) := Lib.hid (by
        rw [show (#[.int .i64 (y + v), .int .i64 (v + x), .int .i64 (x + y)] : Array Value) = icells ys by rw [← hys]; rfl]
        exact ⟨⟨j, j1, j2, hT4⟩, hB4⟩)
      have hrg := Lib.hid (fun x => (show 0 ≤ rcp p x ∧ rcp p x < p from pw_range p x hp _))
      generalize wr.alloc (.cells #[.int .i64 (y + v), .int .i64 (v + x), .int .i64 (x + y)] 2) = w5 at *
      clear hB2' hpb hnb hbp hkq hys hyl hT4 hB4 hbl ht1 j1 j2
      go_loopw [19, 98] (fun th i wr => ∃ k : Nat, k ≤ 3 ∧ i = .int .i64 k ∧ th = .int .i64 (fold p t1 ((ys.take k).map fun k => rcp p (gz p c (k - 1)))) ∧ ChS w1.heap.size B2 p c 1 w1 wr) (fun _ i _ => (3 - intOf i).toNat)
      case atStart => exact ⟨0, by omega, rfl, rfl, HS4.out⟩
      case round =>
        clear HS4
        obtain ⟨k, hk, rfl, rfl, hS⟩ := hrel
        by_cases hlt : k < 3
        · obtain ⟨⟨j, j1, j2, hT⟩, hB⟩ := hS
          have hlx : k < ys.length := by rw [HYL.out]; exact hlt
          have c1 := (hT.kept hkq'.out).cell k
          rw [icells_get _ _ hlx] at c1
          have g1 := hg1.out k hlt
          have hst := hfs.out k hlx
          have r1 := hfr.out ((ys.take k).map fun k => rcp p (gz p c (k - 1)))
          have r2 := hgr.out (ys.getD k 0 - 1)
          have hcl := Lib.hid (hpd1.out (ys.getD k 0 - 1) (by omega) j j1 j2 wr hB hT)
          generalize fold p t1 ((ys.take k).map fun k => rcp p (gz p c (k - 1))) = T1 at *
          generalize ys.getD k 0 = E at *
          have hrc1 := Lib.hid (hrc.out (gz p c (E - 1)) r2.1 r2.2)
          have r3 := hrg.out (gz p c (E - 1))
          generalize gz p c (E - 1) = G at *
          generalize rcp p G = R at *
          have m1 := bnd_mul p T1 R 0 hp hp2 r1.1 r1.2 r3.1 r3.2
          have hst' := Lib.hid hst
          clear hT hst hlx
          go_wp2_with (first
            | (go_at_call 47; ((with_reducible refine (hcl.out).mono ?_); rintro e w6 ⟨rfl, hS6⟩))
            | (go_at_call 29; ((with_reducible refine (hrc1.out _).mono ?_); rintro e w7 ⟨rfl, rfl⟩)))
          go_roundw
          case rel => exact ⟨k + 1, by omega, by go_num, by rw [hst'.out], hS6.trans hB j1⟩
          case measure => simp [intOf]; omega
        · obtain rfl : k = 3 := by omega
          rw [List.take_of_length_le (by rw [HYL.out]; omega)]
          obtain ⟨t2, ht⟩ : ∃ t2, fold p t1 (ys.map fun k => rcp p (gz p c (k - 1))) = t2 := ⟨_, rfl⟩
          rw [ht]
          have hfin : thI p c x y v = t2 := by
            unfold thI
            rw [HT.out, HXS.out, HT1.out, HYS.out, ht]
          have hfin' := Lib.hid hfin
          clear ht hpd1 hkq' HYL hg1 hfs hfr hfin
          have hB := hS.2
          go_wp2
          go_ret2
          exact ⟨by rw [hfin'.out]; rfl, hB1.trans (hB.mono hB1.size)⟩
set_option maxRecDepth 100000 in
theorem theI_code (p c a b d : Int) (w : World) (x : Bool) (hia : Calls Try.prog 8 #[.int .i64 p, .int .i64 c, .int .i64 a, .int .i64 b, .int .i64 d] w fun e w' => e = .returned (.tuple #[.bool x, .int .i64 2]) ∧ Below w.heap.size w w') :
    Calls Try.prog 6 #[.int .i64 p, .int .i64 c, .int .i64 a, .int .i64 b, .int .i64 d] w fun e w' => e = .returned (.tuple #[.int .i64 0, .int .i64 2]) ∧ Below w.heap.size w w' := by
  have hia' := Lib.hid hia
  clear hia
  go_enter Try.func6, Try.ntmps6
  go_wp2_with (first
    | (go_at_call 8; ((with_reducible refine (hia'.out).mono ?_); rintro e w1 ⟨rfl, hB1⟩)))
  go_ret2
  exact ⟨rfl, hB1⟩
set_option maxRecDepth 100000 in
theorem theI_no (p c a b d : Int) (w : World) (hia : Calls Try.prog 8 #[.int .i64 p, .int .i64 c, .int .i64 a, .int .i64 b, .int .i64 d] w fun e w' => e = .returned (.tuple #[.bool false, .int .i64 0]) ∧ Below w.heap.size w w') :
    Calls Try.prog 6 #[.int .i64 p, .int .i64 c, .int .i64 a, .int .i64 b, .int .i64 d] w fun e w' => e = .returned (.tuple #[.int .i64 0, .int .i64 5]) ∧ Below w.heap.size w w' := by
  have hia' := Lib.hid hia
  clear hia
  go_enter Try.func6, Try.ntmps6
  go_wp2_with (first
    | (go_at_call 8; ((with_reducible refine (hia'.out).mono ?_); rintro e w1 ⟨rfl, hB1⟩)))
  go_ret2
  exact ⟨rfl, hB1⟩
end Go.Proofs.Ytmcffhafonemeaa
