/- maps.Equal on two sums: the program's contract. -/
import Derived.Test.YtbibmncepjmgcaaMqp
import Derived.Test.YtbibmncepjmgcaaKe
import Derived.Maps.RangeWalk
import Derived.Test.YtbibmncepjmgcaaKoa
namespace Go.Proofs.Ytbibmncepjmgcaa
open Go.RowKit Go.Lib
open Go.Maps (Keyed)
set_option linter.unusedVariables false
set_option linter.unusedSimpArgs false
set_option maxRecDepth 100000 in
set_option maxHeartbeats 4000000 in
theorem meq_any (p : Int) (b1 n1 b2 n2 : Nat) (A B : List Tm) (w : World) (hA : GoodT p A) (hB : GoodT p B) (hp97 : p ≤ 97) (hlA : A.length ≤ 100000) (hlB : B.length ≤ 100000) (h1 : Smp w b1 n1 A) (h2 : Smp w b2 n2 B) :
    Calls Try.prog 39 #[.map (some b1), .map (some b2)] w fun e w' => e = .returned (.bool (decide (A = B))) ∧ Below w.heap.size w w' := by
  obtain ⟨D1, hO1, hS1, hz1⟩ := h1.size hA
  obtain ⟨D2, hO2, hS2, hz2⟩ := h2.size hB
  have hz1' := Lib.hid hz1
  have hz2' := Lib.hid hz2
  have l1 := h1.lt
  have l2 := h2.lt
  obtain ⟨r, hr⟩ : ∃ r, decide (A = B) = r := ⟨_, rfl⟩
  have hry := Lib.hid (fun (h : A.length = B.length) (k : ∀ t ∈ A, fac trmT (kTm t) B = t.2.2) => show r = true from by rw [← hr]; exact decide_eq_true (sums_eq hA hB h k))
  have hrn := Lib.hid (fun (t : Tm) (ht : t ∈ A) (k : fac trmT (kTm t) B ≠ t.2.2) => show r = false from by rw [← hr]; exact decide_eq_false (fun e => k (by rw [← e]; exact fac_mem linD hA ht)))
  have hrl := Lib.hid (fun (k : A.length ≠ B.length) => show r = false from by rw [← hr]; exact decide_eq_false (fun e => k (congrArg List.length e)))
  have hz0 := Lib.hid (fun (t : Tm) (h : Maps.has D2 (kyD (kTm t)) = false) => show fac trmT (kTm t) B = 0 from by
    by_cases q : fac trmT (kTm t) B = 0
    · exact q
    · obtain ⟨s, hs, e, _⟩ := fac_some hB q
      have := (hS2.has _).2 ⟨s, hs, rfl⟩
      rw [e, h] at this; cases this)
  rw [hr]
  clear hr
  have hrg := Lib.hid (fun (t : Tm) (ht : t ∈ A) => (⟨hA.val t ht, hA.rng t ht⟩ : VD (kTm t) ∧ 1 ≤ t.2.2 ∧ t.2.2 < p))
  have hlk := Lib.hid (fun (d : Dg) (hd : VD d) => hS2.look @kyD_inj hB hd)
  have hS1' := Lib.hid hS1
  have hS2' := Lib.hid hS2
  obtain ⟨m1, hm1⟩ : ∃ z, A.length = z := ⟨_, rfl⟩
  obtain ⟨m2, hm2⟩ : ∃ z, B.length = z := ⟨_, rfl⟩
  rw [hm1] at hz1' hry hrl hlA
  rw [hm2] at hz2' hry hrl hlB
  clear hS1 hS2 hz1 hz2 h1 h2 hA hB hm1 hm2
  go_enter Try.func39, Try.ntmps39
  by_cases hl : m1 = m2
  · subst hl
    have hne : ((m1 : Int) != (m1 : Int)) = false := by simp
    go_wp2_with (first
      | (at_len; refine wpList_len_own _ rfl _ _ rfl _ _ Try.underlying64 _ b1 n1 _ rfl hO1 ?_; rw [hz1'.out])
      | (at_len; refine wpList_len_own _ rfl _ _ rfl _ _ Try.underlying64 _ b2 n2 _ rfl hO2 ?_; rw [hz2'.out])
      | (at_range; refine wpList_range_own _ rfl _ 64 rfl 53 2 keyedD Try.underlying64 _ b1 n1 _ rfl hO1 ?_; intro w0 hrg0 hg0 hs0)
      | go_in)
    replace hry := Lib.hid (fun k => hry.out trivial k)
    clear hrl hne
    go_loopw [16] (fun _ wr => ∃ (left : Lit → Bool) (cnt : Nat), wr.ranges Try.prog 53 (plainElem Try.prog 2) b1 w.heap.size n1 D1 left cnt ∧ (∀ t ∈ A, left (kyD (kTm t)) = false → fac trmT (kTm t) B = t.2.2) ∧ wr.ownsMap Try.prog 53 (plainElem Try.prog 2) b2 n2 D2 ∧ Below w.heap.size w wr ∧ w.heap.size < wr.heap.size) (fun _ wr => wr.rangeLeft b1 w.heap.size)
    case atStart =>
      refine ⟨_, _, hrg0, fun t ht h => ?_, hO2.kept hg0 (by simp), (Below.refl w.heap.size w).grown hg0 (Nat.le_refl _) (fun j e => by cases e), by omega⟩
      have := (hS1'.out.has _).2 ⟨t, ht, rfl⟩
      rw [this] at h; cases h
    case round =>
      clear hrg0 hg0 hs0 hO1 hO2
      obtain ⟨left, cnt, hrg1, hin, hO2, bW, zW⟩ := hrel
      go_wp2_with (first
        | (at_next; refine wpList_next_ranges _ rfl _ rfl 53 keyedD (plainElem Try.prog 2) id id (fun key kl hk => ⟨key, rfl⟩) (fun v _ _ => ⟨v, rfl⟩) b1 w.heap.size n1 _ _ _ rfl hrg1 ?_ ?_)
        | go_in)
      · intro hc0 hl0
        have hrt := hry.out (fun t ht => hin t ht (hl0 _))
        subst hrt
        go_wp2
        go_ret
        exact ⟨rfl, bW⟩
      · intro x c' kl yd yp w2 cnt2 hkey hlk1 hv hat hrg2 hlt hg2 hs2 henq
        have hhas : Maps.has D1 kl = true := Maps.has_true_of_atKey hat
        obtain ⟨t, ht, rfl⟩ := (hS1'.out.has _).1 hhas
        obtain ⟨hvd, hf1, hf2⟩ := hrg.out t ht
        obtain rfl : x = .agg (dcells (kTm t).1 (kTm t).2) := keyedD.inj hkey (kyD_vd hvd)
        obtain ⟨f0, rfl, hyy, hwc⟩ := plainElem_int_inv Try.underlying2 hv
        obtain ⟨rfl, rfl⟩ := Prod.mk.inj hyy
        have hfe : f0 = t.2.2 := by
          have h1 := hat (.lit (.int .i64 0))
          have h2 := hS1'.out.at_ t ht (.lit (.int .i64 0))
          have h3 := h1.symm.trans h2
          injection h3 with h3
          injection h3 with _ h3
        subst hfe
        have hz := hz0.out t
        have hrt := hrn.out t ht
        have hin2 : fac trmT (kTm t) B = t.2.2 → ∀ t' ∈ A, (left (kyD (kTm t')) && !(kyD (kTm t')).sameKey (kyD (kTm t))) = false → fac trmT (kTm t') B = t'.2.2 := fun e t' ht' h => by
          cases q : left (kyD (kTm t')) with
          | false => exact hin t' ht' q
          | true =>
            rw [q] at h
            have q2 : (kyD (kTm t')).sameKey (kyD (kTm t)) = true := by simpa using h
            have e2 : kTm t' = kTm t := kyD_inj (hrg.out t' ht').1 hvd (WideAt.sameKey_eq q2)
            have f1 := hS1'.out.at_ t' ht' (.lit (.int .i64 0))
            have f2 := hS1'.out.at_ t ht (.lit (.int .i64 0))
            rw [e2] at f1 ⊢
            rw [f1] at f2
            injection f2 with f2
            injection f2 with _ f2
            rw [e, f2]
        have hlu := hlk.out (kTm t) hvd
        obtain ⟨d, hd⟩ : ∃ d, kTm t = d := ⟨_, rfl⟩
        obtain ⟨f, hf⟩ : ∃ f, t.2.2 = f := ⟨_, rfl⟩
        obtain ⟨g, hg⟩ : ∃ g, fac trmT d B = g := ⟨_, rfl⟩
        rw [hf] at hf1 hf2 henq hrt hin2
        rw [hd] at hvd henq hrg2 hz hrt hin2 hlu
        rw [hg] at hz hrt hin2 hlu
        simp only [id, hd, hf]
        clear hd hf hg hat hkey hv hyy hwc hlk1 hhas ht hrn hz0 hlk
        obtain ⟨dn, dm⟩ := d
        have hvd' : VD (dn, dm) := hvd
        have hl := Lib.hid (show dm.length = 16 from hvd'.2.1)
        have hky := Lib.hid (kyD_vd hvd')
        have hO2' := hO2.kept hg2 (fun e => by have := Option.some.inj e; omega)
        have bb : Below w.heap.size w w2 := bW.grown hg2 bW.size (fun j e => by obtain rfl : _ = j := Option.some.inj e; omega)
        have zz2 : w.heap.size < w2.heap.size := by omega
        have henq' : (Instr.entry (.pointer (some ⟨w.heap.size, 0, none⟩))).run Try.prog w2 = .ok (.tuple #[.agg (dcells dn dm), .int .i64 f]) w2 := henq
        obtain ⟨kl, hkl⟩ : ∃ kl, kyD (dn, dm) = kl := ⟨_, rfl⟩
        rw [hkl] at hky hlu hz hrg2 hin2
        obtain ⟨hb, hhb⟩ : ∃ hb, Maps.has D2 kl = hb := ⟨_, rfl⟩
        rw [hhb] at hz
        replace hhb := Lib.hid hhb
        replace hlu := Lib.hid hlu
        replace hf1 := Lib.hid hf1
        clear hs2 hvd hvd' hf2 henq bW hg2 hO2 hkl hry hin
        cases hb with
        | false =>
          have hg0 := hz rfl
          have hr := hrt (by have := hf1.out; omega)
          subst hr
          clear hrt hin2 hz hg0
          go_wp2_with (first
            | (at_lookup; refine wpList_lookup_own_ok_int _ rfl _ _ 64 rfl 53 2 .i64 keyedD Try.underlying64 Try.underlying2 (by kernel_rfl) b2 _ _ rfl hO3' _ kl rfl hky.out ?_; intro c hc hw; have hcK : c = g := (by rw [hlu.out] at hc; injection hc with hc; injection hc with _ hc; exact hc.symm); subst hcK; rw [hhb.out])
            | (refine wpList_load_row rfl 53 _ rfl _ rfl 53 _ (0, 0) _ hO3 Try.underlying53 rfl (row26 (d17 _ _ hl.out)) ?_)
            | (refine wpList_store_own rfl 53 _ _ rfl _ _ rfl rfl 53 _ (Own.new w2 _ _) (row26 (d17 _ _ hl.out)) (z_eq (d17 _ _ hl.out)) (dcells_one _ _) ?_; intro w3 hO3 hN3; have s3 : w3.heap.size = w2.heap.size + 1 := (by rw [hN3.size]; simp); have g3 : w2.grownBy w3 none := ⟨hN3.below.os, hN3.below.tape, hN3.below.output, by omega, fun j hj _ => (hN3.other j (by omega)).trans (Below.heap_alloc _ _ _ hj)⟩; have hO3' := hO2'.kept g3 (by simp); have hrg3 := hrg2.kept g3 (by simp) (by simp); have b3 : Below w.heap.size w w3 := (bb.alloc bb.size _).trans (hN3.below.mono bb.size); replace s3 := Lib.hid s3))
          go_ret
          exact ⟨rfl, b3⟩
        | true =>
          by_cases q : g = f
          · have hin3 := Lib.hid (hin2 q)
            subst q
            have zq : (g != g) = false := by simp
            clear hrt hin2 hz
            go_wp2_with (first
              | (at_lookup; refine wpList_lookup_own_ok_int _ rfl _ _ 64 rfl 53 2 .i64 keyedD Try.underlying64 Try.underlying2 (by kernel_rfl) b2 _ _ rfl hO3' _ kl rfl hky.out ?_; intro c hc hw; have hcK : c = g := (by rw [hlu.out] at hc; injection hc with hc; injection hc with _ hc; exact hc.symm); subst hcK; rw [hhb.out])
              | (refine wpList_load_row rfl 53 _ rfl _ rfl 53 _ (0, 0) _ hO3 Try.underlying53 rfl (row26 (d17 _ _ hl.out)) ?_)
              | (refine wpList_store_own rfl 53 _ _ rfl _ _ rfl rfl 53 _ (Own.new w2 _ _) (row26 (d17 _ _ hl.out)) (z_eq (d17 _ _ hl.out)) (dcells_one _ _) ?_; intro w3 hO3 hN3; have s3 : w3.heap.size = w2.heap.size + 1 := (by rw [hN3.size]; simp); have g3 : w2.grownBy w3 none := ⟨hN3.below.os, hN3.below.tape, hN3.below.output, by omega, fun j hj _ => (hN3.other j (by omega)).trans (Below.heap_alloc _ _ _ hj)⟩; have hO3' := hO2'.kept g3 (by simp); have hrg3 := hrg2.kept g3 (by simp) (by simp); have b3 : Below w.heap.size w w3 := (bb.alloc bb.size _).trans (hN3.below.mono bb.size); replace s3 := Lib.hid s3))
            have s3' := s3.out
            go_roundw
            case rel => exact ⟨_, cnt2, hrg3, hin3.out, hO3', b3, by omega⟩
            case measure => rw [hrg3.left_eq, hrg1.left_eq]; exact hlt
          · have hr := hrt q
            subst hr
            have zq : (f != g) = true := by simp; omega
            have zq' : (g != f) = true := by simp; omega
            clear hrt hin2 hz
            go_wp2_with (first
              | (at_lookup; refine wpList_lookup_own_ok_int _ rfl _ _ 64 rfl 53 2 .i64 keyedD Try.underlying64 Try.underlying2 (by kernel_rfl) b2 _ _ rfl hO3' _ kl rfl hky.out ?_; intro c hc hw; have hcK : c = g := (by rw [hlu.out] at hc; injection hc with hc; injection hc with _ hc; exact hc.symm); subst hcK; rw [hhb.out])
              | (refine wpList_load_row rfl 53 _ rfl _ rfl 53 _ (0, 0) _ hO3 Try.underlying53 rfl (row26 (d17 _ _ hl.out)) ?_)
              | (refine wpList_store_own rfl 53 _ _ rfl _ _ rfl rfl 53 _ (Own.new w2 _ _) (row26 (d17 _ _ hl.out)) (z_eq (d17 _ _ hl.out)) (dcells_one _ _) ?_; intro w3 hO3 hN3; have s3 : w3.heap.size = w2.heap.size + 1 := (by rw [hN3.size]; simp); have g3 : w2.grownBy w3 none := ⟨hN3.below.os, hN3.below.tape, hN3.below.output, by omega, fun j hj _ => (hN3.other j (by omega)).trans (Below.heap_alloc _ _ _ hj)⟩; have hO3' := hO2'.kept g3 (by simp); have hrg3 := hrg2.kept g3 (by simp) (by simp); have b3 : Below w.heap.size w w3 := (bb.alloc bb.size _).trans (hN3.below.mono bb.size); replace s3 := Lib.hid s3))
            go_ret
            exact ⟨rfl, b3⟩
  · have hne : ((m1 : Int) != (m2 : Int)) = true := by simp; omega
    have hr := hrl.out hl
    subst hr
    go_wp2_with (first
      | (at_len; refine wpList_len_own _ rfl _ _ rfl _ _ Try.underlying64 _ b1 n1 _ rfl hO1 ?_; rw [hz1'.out])
      | (at_len; refine wpList_len_own _ rfl _ _ rfl _ _ Try.underlying64 _ b2 n2 _ rfl hO2 ?_; rw [hz2'.out]))
    go_ret
    exact ⟨rfl, Below.refl _ _⟩
end Go.Proofs.Ytbibmncepjmgcaa
