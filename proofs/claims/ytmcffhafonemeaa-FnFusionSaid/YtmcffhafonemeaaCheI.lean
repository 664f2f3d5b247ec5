/- The program's Chebyshev numbers: a table that grows, behind a function value. -/
import Derived.Test.YtmcffhafonemeaaChebN
import Derived.Test.YtmcffhafonemeaaNum
import Derived.Test.YtmcffhafonemeaaIntsAt
import Derived.Test.YtmcffhafonemeaaOn
import Derived.IntWalk
namespace Go.Proofs.Ytmcffhafonemeaa
open Go.RowKit
set_option linter.unusedVariables false
def chl (p c : Int) (m : Nat) : List Int := (List.range m).map (cheb p c)
theorem chl_len (p c : Int) (m : Nat) : (chl p c m).length = m := by simp [chl]
theorem chl_get (p c : Int) (m j : Nat) (h : j < m) : (chl p c m).getD j 0 = cheb p c j := by
  rw [List.getD_eq_getElem?_getD]; simp [chl, h]
theorem chl_next (p c : Int) (m : Nat) : chl p c m ++ [cheb p c m] = chl p c (m + 1) := by
  simp [chl, List.range_succ]
/-- Where the variables lie: the table, the two numbers, the two functions; and blocks of numbers that are kept. -/
structure ChB where
  bt : Nat
  bp : Nat
  bc : Nat
  pb : Nat
  nb : Nat
  ks : List (Nat × Array Value)
def nfun (B : ChB) : Value := .func (.func 45) #[] #[.pointer (some ⟨B.bt, 0, none⟩), .pointer (some ⟨B.bp, 0, none⟩), .pointer (some ⟨B.bc, 0, none⟩)]
def pfun (B : ChB) : Value := .func (.func 47) #[] #[.pointer (some ⟨B.pb, 0, none⟩), .pointer (some ⟨B.nb, 0, none⟩), .pointer (some ⟨B.bp, 0, none⟩)]
/-- The table holds the first m numbers; the two numbers and the two functions lie beside it. -/
structure ChT (w : World) (base : Nat) (B : ChB) (p c : Int) (m : Nat) : Prop where
  tab : ∃ g cap, Own w B.bt #[.slice (some ⟨g, 0, none⟩) m cap] 32 ∧ Ints w base g cap (chl p c m) ∧ (g ≠ B.bt ∧ g ≠ B.bp ∧ g ≠ B.bc ∧ g ≠ B.pb ∧ g ≠ B.nb) ∧ ∀ q ∈ B.ks, g ≠ q.1 ∧ Own w q.1 q.2 2
  op : Own w B.bp #[.int .i64 p] 2
  oc : Own w B.bc #[.int .i64 c] 2
  of : Own w B.pb #[pfun B] 46
  og : Own w B.nb #[nfun B] 46
  bt : base ≤ B.bt
  bp : base ≤ B.bp
  bc : base ≤ B.bc
theorem ChT.alloc {w : World} {base : Nat} {B : ChB} {p c : Int} {m : Nat} (h : ChT w base B p c m) (o : Obj) : ChT (w.alloc o) base B p c m := by
  obtain ⟨⟨g, cap, h1, h2, h3, hk⟩, h4, h5, h6, h7, h8, h9, h10⟩ := h
  exact ⟨⟨g, cap, h1.alloc o, h2.alloc o, h3, fun q hq => ⟨(hk q hq).1, (hk q hq).2.alloc o⟩⟩, h4.alloc o, h5.alloc o, h6.alloc o, h7.alloc o, h8, h9, h10⟩
theorem ChT.below {w w' : World} {base : Nat} {B : ChB} {p c : Int} {m : Nat} (h : ChT w base B p c m) (hb : Below w.heap.size w w') : ChT w' base B p c m := by
  obtain ⟨⟨g, cap, h1, h2, h3, hk⟩, h4, h5, h6, h7, h8, h9, h10⟩ := h
  exact ⟨⟨g, cap, h1.below hb h1.lt, h2.below hb h2.lt, h3, fun q hq => ⟨(hk q hq).1, (hk q hq).2.below hb (hk q hq).2.lt⟩⟩, h4.below hb h4.lt, h5.below hb h5.lt, h6.below hb h6.lt, h7.below hb h7.lt, h8, h9, h10⟩
theorem ChT.drewN {w : World} {base : Nat} {B : ChB} {p c : Int} {m : Nat} (h : ChT w base B p c m) (n : Nat) : ChT (w.drewN n) base B p c m := ⟨h.tab, h.op, h.oc, h.of, h.og, h.bt, h.bp, h.bc⟩
/-- A new block of numbers is kept from now on. -/
theorem ChT.add {w : World} {base : Nat} {B : ChB} {p c : Int} {m : Nat} (h : ChT w base B p c m) (cs : Array Value) : ChT (w.alloc (.cells cs 2)) base { B with ks := (w.heap.size, cs) :: B.ks } p c m := by
  obtain ⟨⟨g, cap, h1, h2, h3, hk⟩, h4, h5, h6, h7, h8, h9, h10⟩ := h
  refine ⟨⟨g, cap, h1.alloc _, h2.alloc _, h3, fun q hq => ?_⟩, h4.alloc _, h5.alloc _, h6.alloc _, h7.alloc _, h8, h9, h10⟩
  rcases List.mem_cons.1 hq with rfl | hq
  · exact ⟨Nat.ne_of_lt h2.lt, Own.new _ _ _⟩
  · exact ⟨(hk q hq).1, (hk q hq).2.alloc _⟩
theorem ChT.kept {w : World} {base : Nat} {B : ChB} {p c : Int} {m : Nat} (h : ChT w base B p c m) {b : Nat} {cs : Array Value} (hq : (b, cs) ∈ B.ks) : Own w b cs 2 := by
  obtain ⟨⟨g, cap, h1, h2, h3, hk⟩, _⟩ := h
  exact (hk _ hq).2
/-- Two blocks of different types are two. -/
theorem Own.ne {w : World} {a b : Nat} {cs ds : Array Value} {s t : TypeId} (h : Own w a cs s) (k : Own w b ds t) (hst : s ≠ t) : a ≠ b := by
  intro e
  subst e
  have := (show w.heap[a]? = _ from h).symm.trans k
  simp at this; exact hst this.2
set_option maxRecDepth 100000 in
theorem numI_any (base : Nat) (B : ChB) (p c : Int) (j0 k : Nat) (hp : 2 ≤ p) (hp2 : p ≤ 97) (hc0 : 0 ≤ c) (hc1 : c < p) (hm : 1 ≤ j0) (hm2 : j0 ≤ 1100) (hk : k ≤ 1000) (w : World) (hT : ChT w base B p c (j0 + 1)) (hbase : base ≤ w.heap.size) :
    Calls Try.prog 45 #[.int .i64 k, .pointer (some ⟨B.bt, 0, none⟩), .pointer (some ⟨B.bp, 0, none⟩), .pointer (some ⟨B.bc, 0, none⟩)] w fun e w' => e = .returned (.int .i64 (cheb p c k)) ∧ (∃ j, j0 ≤ j ∧ j ≤ 1100 ∧ ChT w' base B p c (j + 1)) ∧ Below base w w' := by
  obtain ⟨⟨g, cap, h1, h2, h3, hk0⟩, h4, h5, k6, k7, h6, h7, h8⟩ := hT
  have ct := h1.cell 0
  have hT := Lib.hid (ChT.mk ⟨g, cap, h1, h2, h3, hk0⟩ h4 h5 k6 k7 h6 h7 h8)
  clear h1 h2 h3 hk0 h4 h5 k6 k7 h6 h7 h8
  go_enter Try.func45, Try.ntmps45
  go_wp2
  clear ct
  go_loopw [6] (fun i wr => ∃ j : Nat, j0 ≤ j ∧ j ≤ 1100 ∧ i = .int .i64 j ∧ Hid (ChT wr base B p c (j + 1)) ∧ Below base w wr) (fun i _ => ((k : Int) - intOf i).toNat)
  case atStart => exact ⟨j0, by omega, by omega, rfl, hT, Below.refl _ _⟩
  case round =>
    clear hT
    obtain ⟨j, hj, hj2, rfl, hT, hB⟩ := hrel
    obtain ⟨⟨g, cap, h1, h2, h3, hk0⟩, h4, h5, k6, k7, h6, h7, h8⟩ := hT.out
    have hks := Lib.hid hk0
    clear hk0
    have c1 := h1.cell 0
    have c2 := h4.cell 0
    have c3 := h5.cell 0
    by_cases hlt : j < k
    · obtain ⟨i, rfl⟩ : ∃ i, j = i + 1 := ⟨j - 1, by omega⟩
      have r1 := cheb_range p c hp (i + 1)
      have r2 := cheb_range p c hp i
      have m1 := bnd_mul p c (cheb p c (i + 1)) 0 hp hp2 hc0 hc1 r1.1 r1.2
      have hn := Lib.hid (cheb_next p c i)
      have hnx := Lib.hid (chl_next p c (i + 1 + 1))
      have hln := Lib.hid (chl_len p c (i + 1 + 1))
      clear c1 c2 c3
      go_wp2
      generalize hx1 : cheb p c (i + 1) = x1 at *
      generalize hx2 : cheb p c i = x2 at *
      generalize hx3 : c * x1 = x3 at *
      have hnv : (x3 - x2) % p = cheb p c (i + 1 + 1) := by rw [show i + 1 + 1 = i + 2 from rfl, hn.out]
      have e1 : IntKind.i64.wrap ((i : Int) + 1 - 1) = i := by rw [IntWalk.i64_in _ (by omega)]; omega
      have e2 : IntKind.i64.wrap x3 = x3 := IntWalk.i64_in _ (by omega)
      have e3 : IntKind.i64.wrap (x3 - x2) = x3 - x2 := IntWalk.i64_in _ (by omega)
      have e4 : IntKind.i64.wrap (i : Int) = i := IntWalk.i64_in _ (by omega)
      have n1 : ((i : Int) + 1).toNat = i + 1 := by omega
      have q1 : (0 : Int) ≤ (i : Int) + 1 := by omega
      have q2 : (i : Int) < (i : Int) + 1 := by omega
      have q3 : (i : Int) < (i : Int) + 1 + 1 := by omega
      have hcr := Lib.hid (fun wd => (remI_any p (x3 - x2) wd hp hp2 (by omega) (by omega)).mono fun e w' h => (show e = .returned (.int .i64 (cheb p c (i + 1 + 1))) ∧ w' = wd from ⟨by rw [← hnv]; exact h.1, h.2.symm⟩))
      have hi0 := Lib.hid (show i < (chl p c (i + 1 + 1)).length by rw [chl_len]; omega)
      have hi1 := Lib.hid (show i + 1 < (chl p c (i + 1 + 1)).length by rw [chl_len]; omega)
      have HX1 := Lib.hid (show (chl p c (i + 1 + 1)).getD (i + 1) 0 = x1 by rw [chl_get _ _ _ _ (by omega)]; exact hx1)
      have HX2 := Lib.hid (show (chl p c (i + 1 + 1)).getD i 0 = x2 by rw [chl_get _ _ _ _ (by omega)]; exact hx2)
      clear hx1 hx2 hnv
      refine wp_region_on (fun w' => Own w' B.bt #[.slice (some ⟨g, 0, none⟩) (i + 1 + 1) cap] 32 ∧ Ints w' base g cap (chl p c (i + 1 + 1)) ∧ Own w' B.bp #[.int .i64 p] 2 ∧ Own w' B.bc #[.int .i64 c] 2 ∧ Own w' B.pb #[pfun B] 46 ∧ Own w' B.nb #[nfun B] 46 ∧ (∀ q ∈ B.ks, g ≠ q.1 ∧ Own w' q.1 q.2 2) ∧ Below base w w') [0, 1, 2, 3, 4, 5, 6, 7, 8, 9, 10, 11, 12, 13, 14] [15] 16 (by kernel_rfl) (by kernel_rfl) ⟨h1, h2, h4, h5, k6, k7, hks.out, hB.drew⟩ ?_
      simp only [List.map_cons, List.map_nil, opN_zero, opN_succ, List.drop_succ_cons, List.drop_zero]
      clear h1 h2 h4 h5 k6 k7 hks hB hT
      (apply wpOn_step; · (intro wd hS K hK; obtain ⟨h1', h2', h4', h5', k6', k7', hq', hB'⟩ := hS; have c1 := h1'.cell 0; have c2 := h4'.cell 0; have c3 := h5'.cell 0; have d1 := h2'.cell (i + 1) hi1.out; have d2 := h2'.cell i hi0.out; rw [HX1.out] at d1; rw [HX2.out] at d2; clear h1' h2' h4' h5' k6' k7' hq' hB'; go_simp; exact hK))
      (apply wpOn_step; · (intro wd hS K hK; obtain ⟨h1', h2', h4', h5', k6', k7', hq', hB'⟩ := hS; have c1 := h1'.cell 0; have c2 := h4'.cell 0; have c3 := h5'.cell 0; have d1 := h2'.cell (i + 1) hi1.out; have d2 := h2'.cell i hi0.out; rw [HX1.out] at d1; rw [HX2.out] at d2; clear h1' h2' h4' h5' k6' k7' hq' hB'; go_simp; exact hK))
      (apply wpOn_step; · (intro wd hS K hK; obtain ⟨h1', h2', h4', h5', k6', k7', hq', hB'⟩ := hS; have c1 := h1'.cell 0; have c2 := h4'.cell 0; have c3 := h5'.cell 0; have d1 := h2'.cell (i + 1) hi1.out; have d2 := h2'.cell i hi0.out; rw [HX1.out] at d1; rw [HX2.out] at d2; clear h1' h2' h4' h5' k6' k7' hq' hB'; go_simp; exact hK))
      (apply wpOn_step; · (intro wd hS K hK; obtain ⟨h1', h2', h4', h5', k6', k7', hq', hB'⟩ := hS; have c1 := h1'.cell 0; have c2 := h4'.cell 0; have c3 := h5'.cell 0; have d1 := h2'.cell (i + 1) hi1.out; have d2 := h2'.cell i hi0.out; rw [HX1.out] at d1; rw [HX2.out] at d2; clear h1' h2' h4' h5' k6' k7' hq' hB'; go_simp; exact hK))
      (apply wpOn_step; · (intro wd hS K hK; obtain ⟨h1', h2', h4', h5', k6', k7', hq', hB'⟩ := hS; have c1 := h1'.cell 0; have c2 := h4'.cell 0; have c3 := h5'.cell 0; have d1 := h2'.cell (i + 1) hi1.out; have d2 := h2'.cell i hi0.out; rw [HX1.out] at d1; rw [HX2.out] at d2; clear h1' h2' h4' h5' k6' k7' hq' hB'; go_simp; exact hK))
      (apply wpOn_step; · (intro wd hS K hK; obtain ⟨h1', h2', h4', h5', k6', k7', hq', hB'⟩ := hS; have c1 := h1'.cell 0; have c2 := h4'.cell 0; have c3 := h5'.cell 0; have d1 := h2'.cell (i + 1) hi1.out; have d2 := h2'.cell i hi0.out; rw [HX1.out] at d1; rw [HX2.out] at d2; clear h1' h2' h4' h5' k6' k7' hq' hB'; go_simp; exact hK))
      (apply wpOn_step; · (intro wd hS K hK; obtain ⟨h1', h2', h4', h5', k6', k7', hq', hB'⟩ := hS; have c1 := h1'.cell 0; have c2 := h4'.cell 0; have c3 := h5'.cell 0; have d1 := h2'.cell (i + 1) hi1.out; have d2 := h2'.cell i hi0.out; rw [HX1.out] at d1; rw [HX2.out] at d2; clear h1' h2' h4' h5' k6' k7' hq' hB'; go_simp; exact hK))
      (apply wpOn_step; · (intro wd hS K hK; obtain ⟨h1', h2', h4', h5', k6', k7', hq', hB'⟩ := hS; have c1 := h1'.cell 0; have c2 := h4'.cell 0; have c3 := h5'.cell 0; have d1 := h2'.cell (i + 1) hi1.out; have d2 := h2'.cell i hi0.out; rw [HX1.out] at d1; rw [HX2.out] at d2; clear h1' h2' h4' h5' k6' k7' hq' hB'; go_simp; exact hK))
      (apply wpOn_step; · (intro wd hS K hK; obtain ⟨h1', h2', h4', h5', k6', k7', hq', hB'⟩ := hS; have c1 := h1'.cell 0; have c2 := h4'.cell 0; have c3 := h5'.cell 0; have d1 := h2'.cell (i + 1) hi1.out; have d2 := h2'.cell i hi0.out; rw [HX1.out] at d1; rw [HX2.out] at d2; clear h1' h2' h4' h5' k6' k7' hq' hB'; go_simp; exact hK))
      (apply wpOn_step; · (intro wd hS K hK; obtain ⟨h1', h2', h4', h5', k6', k7', hq', hB'⟩ := hS; have c1 := h1'.cell 0; have c2 := h4'.cell 0; have c3 := h5'.cell 0; have d1 := h2'.cell (i + 1) hi1.out; have d2 := h2'.cell i hi0.out; rw [HX1.out] at d1; rw [HX2.out] at d2; clear h1' h2' h4' h5' k6' k7' hq' hB'; go_simp; exact hK))
      (apply wpOn_step; · (intro wd hS K hK; obtain ⟨h1', h2', h4', h5', k6', k7', hq', hB'⟩ := hS; have c1 := h1'.cell 0; have c2 := h4'.cell 0; have c3 := h5'.cell 0; have d1 := h2'.cell (i + 1) hi1.out; have d2 := h2'.cell i hi0.out; rw [HX1.out] at d1; rw [HX2.out] at d2; clear h1' h2' h4' h5' k6' k7' hq' hB'; go_simp; exact hK))
      (apply wpOn_step; · (intro wd hS K hK; obtain ⟨h1', h2', h4', h5', k6', k7', hq', hB'⟩ := hS; have c1 := h1'.cell 0; have c2 := h4'.cell 0; have c3 := h5'.cell 0; have d1 := h2'.cell (i + 1) hi1.out; have d2 := h2'.cell i hi0.out; rw [HX1.out] at d1; rw [HX2.out] at d2; clear h1' h2' h4' h5' k6' k7' hq' hB'; go_simp; exact hK))
      (apply wpOn_step; · (intro wd hS K hK; obtain ⟨h1', h2', h4', h5', k6', k7', hq', hB'⟩ := hS; have c1 := h1'.cell 0; have c2 := h4'.cell 0; have c3 := h5'.cell 0; have d1 := h2'.cell (i + 1) hi1.out; have d2 := h2'.cell i hi0.out; rw [HX1.out] at d1; rw [HX2.out] at d2; clear h1' h2' h4' h5' k6' k7' hq' hB'; go_simp; exact hK))
      (apply wpOn_step; · (intro wd hS K hK; obtain ⟨h1', h2', h4', h5', k6', k7', hq', hB'⟩ := hS; have c1 := h1'.cell 0; have c2 := h4'.cell 0; have c3 := h5'.cell 0; have d1 := h2'.cell (i + 1) hi1.out; have d2 := h2'.cell i hi0.out; rw [HX1.out] at d1; rw [HX2.out] at d2; clear h1' h2' h4' h5' k6' k7' hq' hB'; go_simp; exact hK))
      apply wpOn_step
      · intro wd hS K hK
        go_simp
        exact ⟨_, hcr.out _, hK⟩
      refine wpOn_nil ?_
      rintro wd ⟨h1', h2', h4', h5', k6', k7', hq0, hB'⟩
      have hq' := Lib.hid hq0
      clear hq0
      refine wpMid_step (fun K hK => ?_)
      have hlt1 := h1'.lt
      have hlt4 := h4'.lt
      have hlt5 := h5'.lt
      have hlt6 := k6'.lt
      have hlt7 := k7'.lt
      have hsz := hB'.size
      go_wp2
      refine hK _ _ ⟨h1'.alloc _, h2'.alloc _, h4'.alloc _, h5'.alloc _, k6'.alloc _, k7'.alloc _, fun q hq => ⟨(hq'.out q hq).1, (hq'.out q hq).2.alloc _⟩, hB'.alloc (by omega) _⟩ ?_
      clear hK K
      refine wpMid_nil ?_
      clear e1 e2 e3 e4 q1 q2 q3 n1 hi0 hi1 hx3 hcr HX1 HX2 hn m1 r1 r2
      go_wp2_with (first
        | (refine wpList_append_ints_at rfl (.tmp 15) (.tmp 30) rfl base g cap (chl p c (i + 1 + 1)) (cheb p c (i + 1 + 1)) (by rw [ival, hln.out]; rfl) (h2'.alloc _) ⟨wd.heap.size, 0, none⟩ 1 rfl ((Own.new _ _ _).cell 0) (by rw [hln.out]; omega) (by simp; omega) ?_; intro g2 cap2 w2 hI hG hat; rw [hnx.out] at hI ⊢; rw [ival, chl_len]; have K1 := Lib.hid ((h1'.alloc (.cells #[.int .i64 (cheb p c (i + 1 + 1))] 2)).grown hG (fun e => h3.1 e.symm)); have K4 := Lib.hid ((h4'.alloc (.cells #[.int .i64 (cheb p c (i + 1 + 1))] 2)).grown hG (fun e => h3.2.1 e.symm)); have K5 := Lib.hid ((h5'.alloc (.cells #[.int .i64 (cheb p c (i + 1 + 1))] 2)).grown hG (fun e => h3.2.2.1 e.symm)); have K6 := Lib.hid ((k6'.alloc (.cells #[.int .i64 (cheb p c (i + 1 + 1))] 2)).grown hG (fun e => h3.2.2.2.1 e.symm)); have K7 := Lib.hid ((k7'.alloc (.cells #[.int .i64 (cheb p c (i + 1 + 1))] 2)).grown hG (fun e => h3.2.2.2.2 e.symm)); have KQ := Lib.hid (fun q hq => ((hq'.out q hq).2.alloc (.cells #[.int .i64 (cheb p c (i + 1 + 1))] 2)).grown hG (fun e => (hq'.out q hq).1 e.symm)); have c1 := K1.out.cell 0; have f1 := K1.out.free 0))
      have hn2 : g2 ≠ B.bt ∧ g2 ≠ B.bp ∧ g2 ≠ B.bc ∧ g2 ≠ B.pb ∧ g2 ≠ B.nb := by
        rcases hat with h | h
        · rw [h]; exact h3
        · simp at h; omega
      have hB2 : Below base w w2 := (hB'.alloc (by omega) (.cells #[.int .i64 (cheb p c (i + 1 + 1))] 2)).grown hG (by simp; omega) (fun b e => by have := h2'.1; simp at e; omega)
      have hT2 := Lib.hid (ChT.mk (B := B) (p := p) (c := c) (m := i + 1 + 1 + 1) ⟨g2, cap2, K1.out.set 0 (.slice (some ⟨g2, 0, none⟩) (i + 1 + 1 + 1) cap2), by
        obtain ⟨i1, i2, i3, cur, i4, i5, i6⟩ := hI
        exact ⟨i1, i2, i3, cur, i4.other (a := ⟨B.bt, 0, none⟩) (by simpa using fun e => hn2.1 e.symm) _, i5, i6⟩, hn2, fun q hq => ⟨by
          rcases hat with h | h
          · rw [h]; exact (hq'.out q hq).1
          · have := (hq'.out q hq).2.lt; simp at h; omega, (KQ.out q hq).other (a := ⟨B.bt, 0, none⟩) (K1.out.ne (KQ.out q hq) (by decide)) _⟩⟩ (K4.out.other (a := ⟨B.bt, 0, none⟩) (K1.out.ne K4.out (by decide)) _) (K5.out.other (a := ⟨B.bt, 0, none⟩) (K1.out.ne K5.out (by decide)) _) (K6.out.other (a := ⟨B.bt, 0, none⟩) (K1.out.ne K6.out (by decide)) _) (K7.out.other (a := ⟨B.bt, 0, none⟩) (K1.out.ne K7.out (by decide)) _) h6 h7 h8)
      have hB3 := hB2.setCell (p := ⟨B.bt, 0, none⟩) h6 (.slice (some ⟨g2, 0, none⟩) (i + 1 + 1 + 1) cap2)
      clear hI hG hat K1 K4 K5 K6 K7 KQ hq' c1 f1 hn2 hB2
      go_wp2
      go_roundw
      case rel => exact ⟨i + 1 + 1, by omega, by omega, by go_num, hT2, hB3⟩
      case measure => simp [intOf]; omega
    · have d1 := h2.cell k (by rw [chl_len]; omega)
      rw [chl_get _ _ _ _ (by omega)] at d1
      clear h1 h2 h3 h4 h5 k6 k7 h6 h7 h8
      go_wp2
      go_ret
      exact ⟨rfl, ⟨j, hj, hj2, hT.out⟩, hB⟩
end Go.Proofs.Ytmcffhafonemeaa
