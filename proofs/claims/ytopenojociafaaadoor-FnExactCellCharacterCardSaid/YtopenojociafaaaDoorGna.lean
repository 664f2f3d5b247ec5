/- Plain mathematics: a product of a diagram with that of a half diagram has no more open points above than the half diagram. The contracts of the program's and the model's action of a diagram on a half diagram. The contract of the model's diagram with two halves. -/
import Derived.Test.YtopenojociafaaaDoorPlanM
import Derived.Test.YtopenojociafaaaDoorGmg
import Derived.Test.YtopenojociafaaaDoorGxCnt
import Derived.Test.YtopenojociafaaaDoorGxLawIsH
import Derived.Test.YtopenojociafaaaDoorGmb
import Derived.Test.YtopenojociafaaaDoorToh
import Derived.Test.YtopenojociafaaaDoorHdM
import Derived.Test.YtopenojociafaaaDoorGxArcs
import Derived.Test.YtopenojociafaaaDoorGma
namespace Go.Proofs.YtopenojociafaaaDoor
open Go.RowKit
theorem inj_len (f : Nat → Nat) : ∀ (l1 l2 : List Nat), l1.Nodup → (∀ x ∈ l1, f x ∈ l2) → (∀ x ∈ l1, ∀ y ∈ l1, f x = f y → x = y) → l1.length ≤ l2.length
  | [], _, _, _, _ => Nat.zero_le _
  | x :: l1, l2, hn, hm, hi => by
    have hx := hm x (by simp)
    have hn' := List.nodup_cons.1 hn
    have h := inj_len f l1 (l2.erase (f x)) hn'.2 (fun y hy => (List.mem_erase_of_ne (fun e => hn'.1 (by
      have := hi x (by simp) y (by simp [hy]) e.symm
      rw [this]; exact hy))).2 (hm y (by simp [hy]))) (fun y hy z hz e => hi y (by simp [hy]) z (by simp [hz]) e)
    rw [List.length_erase_of_mem hx] at h
    have := List.length_pos_of_mem hx
    simp only [List.length_cons]; omega
/-- The points above whose lines go through. -/
def upo (N : Nat) (ms : List Int) (k : Nat) : List Nat := (List.range k).filter (fun j => decide ((N : Int) ≤ ms.getD j 0))
theorem cnt_hfL (N : Nat) (ms : List Int) (hb : Bytes ms) (k : Nat) : ((hfL N 0 ms k).map fun n => UInt8.ofNat n.toNat).count 124 = (upo N ms k).length := by
  induction k with
  | zero => rfl
  | succ k ih =>
    have e : (upo N ms (k + 1)).length = (upo N ms k).length + (if (N : Int) ≤ ms.getD k 0 then 1 else 0) := by
      unfold upo
      rw [List.range_succ, List.filter_append, List.length_append]
      congr 1
      simp only [List.filter_cons, List.filter_nil, decide_eq_true_eq]
      split <;> rfl
    rw [e, hfL, List.map_append, List.count_append, ih]
    congr 1
    have hm := hb.get k
    have e0 : (0 : Int).toNat + k = k := by simp
    rw [e0]
    unfold hch
    by_cases c : (N : Int) ≤ ms.getD k 0
    · rw [if_pos c, if_pos (.inr (by omega))]; rfl
    · rw [if_neg c, if_neg (by omega)]
      split <;> rfl
theorem cnt_half (N : Nat) (ms : List Int) (hb : Bytes ms) : cnt (halfB N 0 ms).data.toList = (upo N ms N).length := by
  unfold cnt
  rw [← cnt_hfL N ms hb N]
  rfl
theorem fol_low {n : Int} {d e : Int → Int} (hd : Mt n d) (he : Mt n e) (h1 : 1 ≤ n) (h8 : n ≤ 8) {p : Int} (h0 : n ≤ p) (h2 : p < 2 * n) (h : eP n d e p < n) : e p < n := by
  have hf := fol_p hd he h1 h8 (p := p) (by omega) h2
  rw [show decide (p < n) = false by simp; omega] at hf
  obtain ⟨f', _, ⟨a, b, _⟩ | ⟨a, _⟩⟩ := fol_f hf
  · omega
  · exact a
theorem upo_le (N : Nat) (ms es : List Int) (h1 : 1 ≤ N) (h8 : N ≤ 8) (hbd : Bytes ms) (hbe : Bytes es) (hd : IsS N ms) (he : IsS N es) :
    (upo N (prodL N (mate ms) (mate es)) N).length ≤ (upo N es N).length := by
  have md := mt_of hbd hd
  have me := mt_of hbe he
  have mp : Mt N (mate (prodL N (mate ms) (mate es))) := mt_of (prod_bytes md me (by omega) (by omega)) (prod_isS md me (nc_of hbd hd) (nc_of hbe he) (by omega) (by omega))
  obtain ⟨pr, hpr⟩ : ∃ pr, prodL N (mate ms) (mate es) = pr := ⟨_, rfl⟩
  rw [hpr] at mp ⊢
  have key : ∀ x ∈ upo N pr N, x < N ∧ (N : Int) ≤ mate pr x ∧ mate pr x < 2 * N ∧ mate pr (mate pr x) = x ∧ mate es (mate pr x) < N ∧ 0 ≤ mate es (mate pr x) ∧ mate es (mate es (mate pr x)) = mate pr x := by
    intro x hx
    unfold upo at hx
    rw [List.mem_filter, List.mem_range, decide_eq_true_eq] at hx
    obtain ⟨x1, x2⟩ := hx
    have e0 : mate pr x = pr.getD x 0 := by unfold mate; simp
    rw [← e0] at x2
    have lt := mp.lt x (by omega) (by omega)
    have iv := mp.inv x (by omega) (by omega)
    have e2 : eP N (mate ms) (mate es) (mate pr x) = x := by
      have := prod_mate (n := (N : Int)) (d := mate ms) (e := mate es) (by omega) (p := mate pr x) lt.1 lt.2
      rw [hpr, iv] at this; exact this.symm
    have lo := fol_low md me (by omega) (by omega) x2 lt.2 (by rw [e2]; omega)
    have l2 := me.lt (mate pr x) lt.1 lt.2
    exact ⟨x1, x2, lt.2, iv, lo, l2.1, me.inv _ lt.1 lt.2⟩
  refine inj_len (fun x => (mate es (mate pr x)).toNat) _ _ (List.Pairwise.sublist List.filter_sublist List.nodup_range) (fun x hx => ?_) (fun x hx y hy e => ?_)
  · obtain ⟨x1, x2, x3, x4, x5, x6, x7⟩ := key x hx
    unfold upo
    rw [List.mem_filter, List.mem_range, decide_eq_true_eq]
    refine ⟨by omega, ?_⟩
    have : mate es (mate es (mate pr x)) = es.getD (mate es (mate pr x)).toNat 0 := rfl
    omega
  · obtain ⟨x1, x2, x3, x4, x5, x6, x7⟩ := key x hx
    obtain ⟨y1, y2, y3, y4, y5, y6, y7⟩ := key y hy
    have e' : (mate es (mate pr x)).toNat = (mate es (mate pr y)).toNat := e
    have e1 : mate es (mate pr x) = mate es (mate pr y) := by omega
    have e2 : mate pr x = mate pr y := by rw [← x7, ← y7, e1]
    have e3 : (x : Int) = y := by rw [← x4, ← y4, e2]
    omega
/-- A product of two diagrams, as a diagram. -/
theorem prodD2 (n : Int) (ds es : List Int) (hbd : Bytes ds) (hbe : Bytes es) (hd : IsS n ds) (he : IsS n es) : Bytes (prodL n (mate ds) (mate es)) ∧ IsS n (prodL n (mate ds) (mate es)) :=
  ⟨prod_bytes (mt_of hbd hd) (mt_of hbe he) hd.1.1 hd.1.2, prod_isS (mt_of hbd hd) (mt_of hbe he) (nc_of hbd hd) (nc_of hbe he) hd.1.1 hd.1.2⟩
/-- The diagram of a half diagram with itself: what it is, and its upper half. -/
theorem self_hd {a : List UInt8} {o : List Int} (h : arcO a = some o) : ∃ es : List Int, dmS a.length o o = es ∧ parse (tohL a a) = some ((a.length : Int), es) ∧ Bytes es ∧ IsS a.length es ∧ es.length = 16 ∧ (dm1 a.length o o a.length).2.1.length = (dm1 a.length o o a.length).2.2.length ∧ cnt a = (upo a.length es a.length).length := by
  obtain ⟨g1, g2⟩ := okD_all h h rfl rfl
  have hb := (parse_bytes _ _ _ g2).1
  refine ⟨_, rfl, g2, hb, parse_isS _ _ _ g2, dmS_len _ _ _, g1, ?_⟩
  have hi : ihB a = true := by rw [ihB_eq, h]; rfl
  unfold ihB at hi
  rw [g2] at hi
  simp only [Int.toNat_natCast, decide_eq_true_eq] at hi
  rw [← cnt_half _ _ hb]
  unfold halfB
  rw [Int.toNat_natCast, hi, LI_str]
end Go.Proofs.YtopenojociafaaaDoor
namespace Go.Proofs.YtopenojociafaaaDoor
open Go.RowKit
set_option linter.unusedVariables false
set_option maxRecDepth 100000 in
set_option maxHeartbeats 2000000 in
theorem actI_eq (n : Int) (ms es rs : List Int) (hms : ms.length = 16) (hrs : rs.length = 16) (s h : ByteArray) (lp ch ca : Int) (w : World)
    (hH : ∀ w1, Below w.heap.size w w1 → Calls Tryd.prog 52 #[.string s, .string s] w1 fun e w2 => e = .returned (.agg (dcells n es)) ∧ Below w1.heap.size w1 w2)
    (hP : ∀ w1, Calls Tryd.prog 51 #[.agg (dcells n ms), .agg (dcells n es)] w1 fun e w2 => e = .returned (.tuple #[.agg (dcells n rs), .int .i64 lp]) ∧ Below w1.heap.size w1 w2)
    (hF : ∀ w1, Calls Tryd.prog 54 #[.agg (dcells n rs), .int .i64 0] w1 fun e w2 => e = .returned (.string h) ∧ Below w1.heap.size w1 w2)
    (hch : ∀ w1, Calls Tryd.prog 53 #[.string h] w1 fun e w2 => e = .returned (.int .i64 ch) ∧ w2 = w1)
    (hca : ∀ w1, Calls Tryd.prog 53 #[.string s] w1 fun e w2 => e = .returned (.int .i64 ca) ∧ w2 = w1) (hc : ch = ca) :
    Calls Tryd.prog 35 #[.agg (dcells n ms), .string s] w fun e w' => e = .returned (.tuple #[.string h, .int .i64 lp]) ∧ Below w.heap.size w w' := by
  have hl := Lib.hid hms
  have hh := Lib.hid hrs
  have hH := Lib.hid hH
  have hP := Lib.hid hP
  have hFh := Lib.hid hF
  clear hF
  have hch := Lib.hid hch
  have hca := Lib.hid hca
  clear hms hrs
  go_enter Tryd.func35, Tryd.ntmps35
  go_wp2_with fail
  have hA1 : Own ((w.alloc (.cells (dcells n ms) 32)).drew) w.heap.size (dcells n ms) 32 := Own.new _ _ _
  have b1 : Below w.heap.size w ((w.alloc (.cells (dcells n ms) 32)).drew) := ((Below.refl _ _).alloc (Nat.le_refl _) _).drew
  obtain ⟨wd, hwd⟩ : ∃ wd, ((w.alloc (.cells (dcells n ms) 32)).drew) = wd := ⟨_, rfl⟩
  rw [hwd] at hA1 b1
  have hlt1 := hA1.lt
  refine wp_region_facts (by kernel_rfl) (by kernel_rfl) (fun a w' => ∃ x6 x7 x9 x10 x11 x12 x13 x14 x15 x16 : Value, a = ⟨List.toArray [.agg (dcells n ms), .string s, .pointer (some ⟨w.heap.size, 0, none⟩), undef, .string ⟨#[]⟩, .int .i64 0, x6, x7, undef, x9, x10, x11, x12, x13, x14, x15, x16, undef, undef, undef, undef, undef, undef, undef, undef, undef, undef], []⟩ ∧ Below wd.heap.size wd w') (fun j a w' => match j with | 0 => sl a 10 = .agg (dcells n ms) | 1 => sl a 11 = .string s | 2 => sl a 12 = .string s | 3 => sl a 13 = .agg (dcells n es) | 4 => sl a 14 = .tuple #[.agg (dcells n rs), .int .i64 lp] | 5 => sl a 9 = .tuple #[.agg (dcells n rs), .int .i64 lp] | 6 => sl a 15 = .agg (dcells n rs) | 7 => sl a 16 = .int .i64 lp | 8 => ∃ g, wd.heap.size ≤ g ∧ sl a 6 = .pointer (some ⟨g, 0, none⟩) ∧ ∃ cs, cs.size = 17 ∧ Own w' g cs 32 | 9 => ∃ g, wd.heap.size ≤ g ∧ sl a 6 = .pointer (some ⟨g, 0, none⟩) ∧ Own w' g (dcells n rs) 32 | 10 => sl a 7 = .int .i64 lp | _ => True) ⟨_, _, _, _, _, _, _, _, _, _, rfl, by rw [← hwd]; exact Below.refl _ _⟩ ?_ ?_
  · refine (AllOps.cons ?_ (AllOps.cons ?_ (AllOps.cons ?_ (AllOps.cons ?_ (AllOps.cons ?_ (AllOps.cons ?_ (AllOps.cons ?_ (AllOps.cons ?_ (AllOps.cons ?_ (AllOps.cons ?_ (AllOps.cons ?_ AllOps.nil)))))))))))
    · rintro a w0 ⟨x6, x7, x9, x10, x11, x12, x13, x14, x15, x16, rfl, hB⟩ hd K hK
      go_wp2_with (first | (refine wpList_load_row rfl 32 _ rfl _ rfl 32 _ (0, 0) _ (hA1.below hB hlt1) Tryd.underlying32 rfl (row26 (d17 _ _ (hl.out))) ?_))
      refine hK _ _ ⟨_, _, _, _, _, _, _, _, _, _, rfl, hB⟩ (rfl) ?_
      rintro (_|_|_|_|_|_|_|_|_|_|_|_) hj hn h <;> first | exact h | exact absurd rfl hj | exact waits_no hn (by kernel_rfl)
    · rintro a w0 ⟨x6, x7, x9, x10, x11, x12, x13, x14, x15, x16, rfl, hB⟩ hd K hK
      go_wp2
      refine hK _ _ ⟨_, _, _, _, _, _, _, _, _, _, rfl, hB⟩ (rfl) ?_
      rintro (_|_|_|_|_|_|_|_|_|_|_|_) hj hn h <;> first | exact h | exact absurd rfl hj | exact waits_no hn (by kernel_rfl)
    · rintro a w0 ⟨x6, x7, x9, x10, x11, x12, x13, x14, x15, x16, rfl, hB⟩ hd K hK
      go_wp2
      refine hK _ _ ⟨_, _, _, _, _, _, _, _, _, _, rfl, hB⟩ (rfl) ?_
      rintro (_|_|_|_|_|_|_|_|_|_|_|_) hj hn h <;> first | exact h | exact absurd rfl hj | exact waits_no hn (by kernel_rfl)
    · rintro a w0 ⟨x6, x7, x9, x10, x11, x12, x13, x14, x15, x16, rfl, hB⟩ hd K hK
      have d0 : x11 = _ := hd 1 (by kernel_rfl)
      have d1 : x12 = _ := hd 2 (by kernel_rfl)
      subst d0 d1
      go_wp2_with (first | (go_at_call 52; ((with_reducible refine (hH.out _ (b1.trans (hB.mono b1.size))).mono ?_); rintro e w2 ⟨rfl, hB2⟩)))
      refine hK _ _ ⟨_, _, _, _, _, _, _, _, _, _, rfl, hB.trans (hB2.mono hB.size)⟩ (rfl) ?_
      rintro (_|_|_|_|_|_|_|_|_|_|_|_) hj hn h <;> first | exact h | exact absurd rfl hj | (obtain ⟨g, hg, e, cs, hcs, hO⟩ := h; exact ⟨g, hg, e, cs, hcs, hO.below hB2 hO.lt⟩) | (obtain ⟨g, hg, e, hO⟩ := h; exact ⟨g, hg, e, hO.below hB2 hO.lt⟩) | exact waits_no hn (by kernel_rfl)
    · rintro a w0 ⟨x6, x7, x9, x10, x11, x12, x13, x14, x15, x16, rfl, hB⟩ hd K hK
      have d0 : x10 = _ := hd 0 (by kernel_rfl)
      have d1 : x13 = _ := hd 3 (by kernel_rfl)
      subst d0 d1
      go_wp2_with (first | (go_at_call 51; ((with_reducible refine (hP.out _).mono ?_); rintro e w2 ⟨rfl, hB2⟩)))
      refine hK _ _ ⟨_, _, _, _, _, _, _, _, _, _, rfl, hB.trans (hB2.mono hB.size)⟩ (rfl) ?_
      rintro (_|_|_|_|_|_|_|_|_|_|_|_) hj hn h <;> first | exact h | exact absurd rfl hj | (obtain ⟨g, hg, e, cs, hcs, hO⟩ := h; exact ⟨g, hg, e, cs, hcs, hO.below hB2 hO.lt⟩) | (obtain ⟨g, hg, e, hO⟩ := h; exact ⟨g, hg, e, hO.below hB2 hO.lt⟩) | exact waits_no hn (by kernel_rfl)
    · rintro a w0 ⟨x6, x7, x9, x10, x11, x12, x13, x14, x15, x16, rfl, hB⟩ hd K hK
      have d0 : x14 = _ := hd 4 (by kernel_rfl)
      subst d0
      go_wp2
      refine hK _ _ ⟨_, _, _, _, _, _, _, _, _, _, rfl, hB⟩ (rfl) ?_
      rintro (_|_|_|_|_|_|_|_|_|_|_|_) hj hn h <;> first | exact h | exact absurd rfl hj | exact waits_no hn (by kernel_rfl)
    · rintro a w0 ⟨x6, x7, x9, x10, x11, x12, x13, x14, x15, x16, rfl, hB⟩ hd K hK
      have d0 : x9 = _ := hd 5 (by kernel_rfl)
      subst d0
      go_wp2
      refine hK _ _ ⟨_, _, _, _, _, _, _, _, _, _, rfl, hB⟩ (rfl) ?_
      rintro (_|_|_|_|_|_|_|_|_|_|_|_) hj hn h <;> first | exact h | exact absurd rfl hj | exact waits_no hn (by kernel_rfl)
    · rintro a w0 ⟨x6, x7, x9, x10, x11, x12, x13, x14, x15, x16, rfl, hB⟩ hd K hK
      have d0 : x9 = _ := hd 5 (by kernel_rfl)
      subst d0
      go_wp2
      refine hK _ _ ⟨_, _, _, _, _, _, _, _, _, _, rfl, hB⟩ (rfl) ?_
      rintro (_|_|_|_|_|_|_|_|_|_|_|_) hj hn h <;> first | exact h | exact absurd rfl hj | exact waits_no hn (by kernel_rfl)
    · rintro a w0 ⟨x6, x7, x9, x10, x11, x12, x13, x14, x15, x16, rfl, hB⟩ hd K hK
      go_wp2
      refine hK _ _ ⟨_, _, _, _, _, _, _, _, _, _, rfl, hB.alloc hB.size _⟩ (⟨_, hB.size, rfl, _, rfl, Own.new _ _ _⟩) ?_
      rintro (_|_|_|_|_|_|_|_|_|_|_|_) hj hn h <;> first | exact h | exact absurd rfl hj | exact waits_no hn (by kernel_rfl)
    · rintro a w0 ⟨x6, x7, x9, x10, x11, x12, x13, x14, x15, x16, rfl, hB⟩ hd K hK
      have d0 : x15 = _ := hd 6 (by kernel_rfl)
      have d8 := hd 8 (by kernel_rfl)
      obtain ⟨g, hg, e, cs, hcs, hO⟩ := d8
      have e : x6 = _ := e
      subst d0 e
      go_wp2_with (first | (refine wpList_store_own rfl 32 _ _ rfl _ _ rfl rfl 32 _ (hO) (row26 (d17 _ _ (hh.out))) (by rw [hcs, d17 _ _ hh.out]) (dcells_one _ _) ?_; intro w2 hO2 hN2))
      refine hK _ _ ⟨_, _, _, _, _, _, _, _, _, _, rfl, hB.trans (hN2.below.mono hg)⟩ (⟨g, hg, rfl, hO2⟩) ?_
      rintro (_|_|_|_|_|_|_|_|_|_|_|_) hj hn h <;> first | exact h | exact absurd rfl hj | exact ⟨g, hg, rfl, _, d17 _ _ hh.out, hO2⟩ | exact waits_no hn (by kernel_rfl)
    · rintro a w0 ⟨x6, x7, x9, x10, x11, x12, x13, x14, x15, x16, rfl, hB⟩ hd K hK
      have d0 : x16 = _ := hd 7 (by kernel_rfl)
      subst d0
      go_wp2
      refine hK _ _ ⟨_, _, _, _, _, _, _, _, _, _, rfl, hB⟩ (rfl) ?_
      rintro (_|_|_|_|_|_|_|_|_|_|_|_) hj hn h <;> first | exact h | exact absurd rfl hj | exact waits_no hn (by kernel_rfl)
  · rintro a w1 ⟨x6, x7, x9, x10, x11, x12, x13, x14, x15, x16, rfl, hB⟩ hF
    have e0 : x7 = _ := hF 10 (by decide)
    have d9 := hF 9 (by decide)
    obtain ⟨g, hg, e, hOg⟩ := d9
    have e : x6 = _ := e
    subst e e0
    have b2 : Below w.heap.size w w1 := b1.trans (hB.mono b1.size)
    clear hwd hB hA1 b1 hF
    subst hc
    go_wp2_with (first
      | (refine wpList_load_row rfl 32 _ rfl _ rfl 32 _ (0, 0) _ (hOg) Tryd.underlying32 rfl (row26 (d17 _ _ (hh.out))) ?_)
      | (go_at_call 54; ((with_reducible refine (hFh.out _).mono ?_); rintro e w3 ⟨rfl, hB3⟩))
      | (go_at_call 53; ((with_reducible refine (hch.out _).mono ?_); rintro e w4 ⟨rfl, rfl⟩))
      | (go_at_call 53; ((with_reducible refine (hca.out _).mono ?_); rintro e w5 ⟨rfl, rfl⟩)))
    go_ret2
    exact ⟨rfl, b2.trans (hB3.mono b2.size)⟩
set_option maxRecDepth 100000 in
set_option maxHeartbeats 2000000 in
theorem actI_lt (n : Int) (ms es rs : List Int) (hms : ms.length = 16) (hrs : rs.length = 16) (s h : ByteArray) (lp ch ca : Int) (w : World)
    (hH : ∀ w1, Below w.heap.size w w1 → Calls Tryd.prog 52 #[.string s, .string s] w1 fun e w2 => e = .returned (.agg (dcells n es)) ∧ Below w1.heap.size w1 w2)
    (hP : ∀ w1, Calls Tryd.prog 51 #[.agg (dcells n ms), .agg (dcells n es)] w1 fun e w2 => e = .returned (.tuple #[.agg (dcells n rs), .int .i64 lp]) ∧ Below w1.heap.size w1 w2)
    (hF : ∀ w1, Calls Tryd.prog 54 #[.agg (dcells n rs), .int .i64 0] w1 fun e w2 => e = .returned (.string h) ∧ Below w1.heap.size w1 w2)
    (hch : ∀ w1, Calls Tryd.prog 53 #[.string h] w1 fun e w2 => e = .returned (.int .i64 ch) ∧ w2 = w1)
    (hca : ∀ w1, Calls Tryd.prog 53 #[.string s] w1 fun e w2 => e = .returned (.int .i64 ca) ∧ w2 = w1) (hc : ch < ca) :
    Calls Tryd.prog 35 #[.agg (dcells n ms), .string s] w fun e w' => e = .returned (.tuple #[.string ⟨#[]⟩, .int .i64 lp]) ∧ Below w.heap.size w w' := by
  have hl := Lib.hid hms
  have hh := Lib.hid hrs
  have hH := Lib.hid hH
  have hP := Lib.hid hP
  have hFh := Lib.hid hF
  clear hF
  have hch := Lib.hid hch
  have hca := Lib.hid hca
  clear hms hrs
  go_enter Tryd.func35, Tryd.ntmps35
  go_wp2_with fail
  have hA1 : Own ((w.alloc (.cells (dcells n ms) 32)).drew) w.heap.size (dcells n ms) 32 := Own.new _ _ _
  have b1 : Below w.heap.size w ((w.alloc (.cells (dcells n ms) 32)).drew) := ((Below.refl _ _).alloc (Nat.le_refl _) _).drew
  obtain ⟨wd, hwd⟩ : ∃ wd, ((w.alloc (.cells (dcells n ms) 32)).drew) = wd := ⟨_, rfl⟩
  rw [hwd] at hA1 b1
  have hlt1 := hA1.lt
  refine wp_region_facts (by kernel_rfl) (by kernel_rfl) (fun a w' => ∃ x6 x7 x9 x10 x11 x12 x13 x14 x15 x16 : Value, a = ⟨List.toArray [.agg (dcells n ms), .string s, .pointer (some ⟨w.heap.size, 0, none⟩), undef, .string ⟨#[]⟩, .int .i64 0, x6, x7, undef, x9, x10, x11, x12, x13, x14, x15, x16, undef, undef, undef, undef, undef, undef, undef, undef, undef, undef], []⟩ ∧ Below wd.heap.size wd w') (fun j a w' => match j with | 0 => sl a 10 = .agg (dcells n ms) | 1 => sl a 11 = .string s | 2 => sl a 12 = .string s | 3 => sl a 13 = .agg (dcells n es) | 4 => sl a 14 = .tuple #[.agg (dcells n rs), .int .i64 lp] | 5 => sl a 9 = .tuple #[.agg (dcells n rs), .int .i64 lp] | 6 => sl a 15 = .agg (dcells n rs) | 7 => sl a 16 = .int .i64 lp | 8 => ∃ g, wd.heap.size ≤ g ∧ sl a 6 = .pointer (some ⟨g, 0, none⟩) ∧ ∃ cs, cs.size = 17 ∧ Own w' g cs 32 | 9 => ∃ g, wd.heap.size ≤ g ∧ sl a 6 = .pointer (some ⟨g, 0, none⟩) ∧ Own w' g (dcells n rs) 32 | 10 => sl a 7 = .int .i64 lp | _ => True) ⟨_, _, _, _, _, _, _, _, _, _, rfl, by rw [← hwd]; exact Below.refl _ _⟩ ?_ ?_
  · refine (AllOps.cons ?_ (AllOps.cons ?_ (AllOps.cons ?_ (AllOps.cons ?_ (AllOps.cons ?_ (AllOps.cons ?_ (AllOps.cons ?_ (AllOps.cons ?_ (AllOps.cons ?_ (AllOps.cons ?_ (AllOps.cons ?_ AllOps.nil)))))))))))
    · rintro a w0 ⟨x6, x7, x9, x10, x11, x12, x13, x14, x15, x16, rfl, hB⟩ hd K hK
      go_wp2_with (first | (refine wpList_load_row rfl 32 _ rfl _ rfl 32 _ (0, 0) _ (hA1.below hB hlt1) Tryd.underlying32 rfl (row26 (d17 _ _ (hl.out))) ?_))
      refine hK _ _ ⟨_, _, _, _, _, _, _, _, _, _, rfl, hB⟩ (rfl) ?_
      rintro (_|_|_|_|_|_|_|_|_|_|_|_) hj hn h <;> first | exact h | exact absurd rfl hj | exact waits_no hn (by kernel_rfl)
    · rintro a w0 ⟨x6, x7, x9, x10, x11, x12, x13, x14, x15, x16, rfl, hB⟩ hd K hK
      go_wp2
      refine hK _ _ ⟨_, _, _, _, _, _, _, _, _, _, rfl, hB⟩ (rfl) ?_
      rintro (_|_|_|_|_|_|_|_|_|_|_|_) hj hn h <;> first | exact h | exact absurd rfl hj | exact waits_no hn (by kernel_rfl)
    · rintro a w0 ⟨x6, x7, x9, x10, x11, x12, x13, x14, x15, x16, rfl, hB⟩ hd K hK
      go_wp2
      refine hK _ _ ⟨_, _, _, _, _, _, _, _, _, _, rfl, hB⟩ (rfl) ?_
      rintro (_|_|_|_|_|_|_|_|_|_|_|_) hj hn h <;> first | exact h | exact absurd rfl hj | exact waits_no hn (by kernel_rfl)
    · rintro a w0 ⟨x6, x7, x9, x10, x11, x12, x13, x14, x15, x16, rfl, hB⟩ hd K hK
      have d0 : x11 = _ := hd 1 (by kernel_rfl)
      have d1 : x12 = _ := hd 2 (by kernel_rfl)
      subst d0 d1
      go_wp2_with (first | (go_at_call 52; ((with_reducible refine (hH.out _ (b1.trans (hB.mono b1.size))).mono ?_); rintro e w2 ⟨rfl, hB2⟩)))
      refine hK _ _ ⟨_, _, _, _, _, _, _, _, _, _, rfl, hB.trans (hB2.mono hB.size)⟩ (rfl) ?_
      rintro (_|_|_|_|_|_|_|_|_|_|_|_) hj hn h <;> first | exact h | exact absurd rfl hj | (obtain ⟨g, hg, e, cs, hcs, hO⟩ := h; exact ⟨g, hg, e, cs, hcs, hO.below hB2 hO.lt⟩) | (obtain ⟨g, hg, e, hO⟩ := h; exact ⟨g, hg, e, hO.below hB2 hO.lt⟩) | exact waits_no hn (by kernel_rfl)
    · rintro a w0 ⟨x6, x7, x9, x10, x11, x12, x13, x14, x15, x16, rfl, hB⟩ hd K hK
      have d0 : x10 = _ := hd 0 (by kernel_rfl)
      have d1 : x13 = _ := hd 3 (by kernel_rfl)
      subst d0 d1
      go_wp2_with (first | (go_at_call 51; ((with_reducible refine (hP.out _).mono ?_); rintro e w2 ⟨rfl, hB2⟩)))
      refine hK _ _ ⟨_, _, _, _, _, _, _, _, _, _, rfl, hB.trans (hB2.mono hB.size)⟩ (rfl) ?_
      rintro (_|_|_|_|_|_|_|_|_|_|_|_) hj hn h <;> first | exact h | exact absurd rfl hj | (obtain ⟨g, hg, e, cs, hcs, hO⟩ := h; exact ⟨g, hg, e, cs, hcs, hO.below hB2 hO.lt⟩) | (obtain ⟨g, hg, e, hO⟩ := h; exact ⟨g, hg, e, hO.below hB2 hO.lt⟩) | exact waits_no hn (by kernel_rfl)
    · rintro a w0 ⟨x6, x7, x9, x10, x11, x12, x13, x14, x15, x16, rfl, hB⟩ hd K hK
      have d0 : x14 = _ := hd 4 (by kernel_rfl)
      subst d0
      go_wp2
      refine hK _ _ ⟨_, _, _, _, _, _, _, _, _, _, rfl, hB⟩ (rfl) ?_
      rintro (_|_|_|_|_|_|_|_|_|_|_|_) hj hn h <;> first | exact h | exact absurd rfl hj | exact waits_no hn (by kernel_rfl)
    · rintro a w0 ⟨x6, x7, x9, x10, x11, x12, x13, x14, x15, x16, rfl, hB⟩ hd K hK
      have d0 : x9 = _ := hd 5 (by kernel_rfl)
      subst d0
      go_wp2
      refine hK _ _ ⟨_, _, _, _, _, _, _, _, _, _, rfl, hB⟩ (rfl) ?_
      rintro (_|_|_|_|_|_|_|_|_|_|_|_) hj hn h <;> first | exact h | exact absurd rfl hj | exact waits_no hn (by kernel_rfl)
    · rintro a w0 ⟨x6, x7, x9, x10, x11, x12, x13, x14, x15, x16, rfl, hB⟩ hd K hK
      have d0 : x9 = _ := hd 5 (by kernel_rfl)
      subst d0
      go_wp2
      refine hK _ _ ⟨_, _, _, _, _, _, _, _, _, _, rfl, hB⟩ (rfl) ?_
      rintro (_|_|_|_|_|_|_|_|_|_|_|_) hj hn h <;> first | exact h | exact absurd rfl hj | exact waits_no hn (by kernel_rfl)
    · rintro a w0 ⟨x6, x7, x9, x10, x11, x12, x13, x14, x15, x16, rfl, hB⟩ hd K hK
      go_wp2
      refine hK _ _ ⟨_, _, _, _, _, _, _, _, _, _, rfl, hB.alloc hB.size _⟩ (⟨_, hB.size, rfl, _, rfl, Own.new _ _ _⟩) ?_
      rintro (_|_|_|_|_|_|_|_|_|_|_|_) hj hn h <;> first | exact h | exact absurd rfl hj | exact waits_no hn (by kernel_rfl)
    · rintro a w0 ⟨x6, x7, x9, x10, x11, x12, x13, x14, x15, x16, rfl, hB⟩ hd K hK
      have d0 : x15 = _ := hd 6 (by kernel_rfl)
      have d8 := hd 8 (by kernel_rfl)
      obtain ⟨g, hg, e, cs, hcs, hO⟩ := d8
      have e : x6 = _ := e
      subst d0 e
      go_wp2_with (first | (refine wpList_store_own rfl 32 _ _ rfl _ _ rfl rfl 32 _ (hO) (row26 (d17 _ _ (hh.out))) (by rw [hcs, d17 _ _ hh.out]) (dcells_one _ _) ?_; intro w2 hO2 hN2))
      refine hK _ _ ⟨_, _, _, _, _, _, _, _, _, _, rfl, hB.trans (hN2.below.mono hg)⟩ (⟨g, hg, rfl, hO2⟩) ?_
      rintro (_|_|_|_|_|_|_|_|_|_|_|_) hj hn h <;> first | exact h | exact absurd rfl hj | exact ⟨g, hg, rfl, _, d17 _ _ hh.out, hO2⟩ | exact waits_no hn (by kernel_rfl)
    · rintro a w0 ⟨x6, x7, x9, x10, x11, x12, x13, x14, x15, x16, rfl, hB⟩ hd K hK
      have d0 : x16 = _ := hd 7 (by kernel_rfl)
      subst d0
      go_wp2
      refine hK _ _ ⟨_, _, _, _, _, _, _, _, _, _, rfl, hB⟩ (rfl) ?_
      rintro (_|_|_|_|_|_|_|_|_|_|_|_) hj hn h <;> first | exact h | exact absurd rfl hj | exact waits_no hn (by kernel_rfl)
  · rintro a w1 ⟨x6, x7, x9, x10, x11, x12, x13, x14, x15, x16, rfl, hB⟩ hF
    have e0 : x7 = _ := hF 10 (by decide)
    have d9 := hF 9 (by decide)
    obtain ⟨g, hg, e, hOg⟩ := d9
    have e : x6 = _ := e
    subst e e0
    have b2 : Below w.heap.size w w1 := b1.trans (hB.mono b1.size)
    clear hwd hB hA1 b1 hF
    skip
    go_wp2_with (first
      | (refine wpList_load_row rfl 32 _ rfl _ rfl 32 _ (0, 0) _ (hOg) Tryd.underlying32 rfl (row26 (d17 _ _ (hh.out))) ?_)
      | (go_at_call 54; ((with_reducible refine (hFh.out _).mono ?_); rintro e w3 ⟨rfl, hB3⟩))
      | (go_at_call 53; ((with_reducible refine (hch.out _).mono ?_); rintro e w4 ⟨rfl, rfl⟩))
      | (go_at_call 53; ((with_reducible refine (hca.out _).mono ?_); rintro e w5 ⟨rfl, rfl⟩)))
    go_ret2
    exact ⟨rfl, b2.trans (hB3.mono b2.size)⟩
set_option maxRecDepth 100000 in
set_option maxHeartbeats 2000000 in
theorem actS_eq (n : Int) (ms es rs : List Int) (hms : ms.length = 16) (hrs : rs.length = 16) (s h : ByteArray) (lp ch ca : Int) (w : World)
    (hH : ∀ w1, Below w.heap.size w w1 → Calls Tryd.prog 77 #[.string s, .string s] w1 fun e w2 => e = .returned (.agg (dcells n es)) ∧ Below w1.heap.size w1 w2)
    (hP : ∀ w1, Calls Tryd.prog 76 #[.agg (dcells n ms), .agg (dcells n es)] w1 fun e w2 => e = .returned (.tuple #[.agg (dcells n rs), .int .i64 lp]) ∧ Below w1.heap.size w1 w2)
    (hF : ∀ w1, Calls Tryd.prog 78 #[.agg (dcells n rs), .bool false] w1 fun e w2 => e = .returned (.string h) ∧ Below w1.heap.size w1 w2)
    (hch : ∀ w1, Calls Tryd.prog 67 #[.string h] w1 fun e w2 => e = .returned (.int .i64 ch) ∧ w2 = w1)
    (hca : ∀ w1, Calls Tryd.prog 67 #[.string s] w1 fun e w2 => e = .returned (.int .i64 ca) ∧ w2 = w1) (hc : ch = ca) :
    Calls Tryd.prog 56 #[.agg (dcells n ms), .string s] w fun e w' => e = .returned (.tuple #[.string h, .int .i64 lp]) ∧ Below w.heap.size w w' := by
  have hl := Lib.hid hms
  have hh := Lib.hid hrs
  have hH := Lib.hid hH
  have hP := Lib.hid hP
  have hFh := Lib.hid hF
  clear hF
  have hch := Lib.hid hch
  have hca := Lib.hid hca
  clear hms hrs
  go_enter Tryd.func56, Tryd.ntmps56
  go_wp2_with fail
  have hA1 : Own ((w.alloc (.cells (dcells n ms) 32)).drew) w.heap.size (dcells n ms) 32 := Own.new _ _ _
  have b1 : Below w.heap.size w ((w.alloc (.cells (dcells n ms) 32)).drew) := ((Below.refl _ _).alloc (Nat.le_refl _) _).drew
  obtain ⟨wd, hwd⟩ : ∃ wd, ((w.alloc (.cells (dcells n ms) 32)).drew) = wd := ⟨_, rfl⟩
  rw [hwd] at hA1 b1
  have hlt1 := hA1.lt
  refine wp_region_facts (by kernel_rfl) (by kernel_rfl) (fun a w' => ∃ x6 x7 x9 x10 x11 x12 x13 x14 x15 x16 : Value, a = ⟨List.toArray [.agg (dcells n ms), .string s, .pointer (some ⟨w.heap.size, 0, none⟩), undef, .string ⟨#[]⟩, .int .i64 0, x6, x7, undef, x9, x10, x11, x12, x13, x14, x15, x16, undef, undef, undef, undef, undef, undef, undef, undef, undef, undef], []⟩ ∧ Below wd.heap.size wd w') (fun j a w' => match j with | 0 => sl a 10 = .agg (dcells n ms) | 1 => sl a 11 = .string s | 2 => sl a 12 = .string s | 3 => sl a 13 = .agg (dcells n es) | 4 => sl a 14 = .tuple #[.agg (dcells n rs), .int .i64 lp] | 5 => sl a 9 = .tuple #[.agg (dcells n rs), .int .i64 lp] | 6 => sl a 15 = .agg (dcells n rs) | 7 => sl a 16 = .int .i64 lp | 8 => ∃ g, wd.heap.size ≤ g ∧ sl a 6 = .pointer (some ⟨g, 0, none⟩) ∧ ∃ cs, cs.size = 17 ∧ Own w' g cs 32 | 9 => ∃ g, wd.heap.size ≤ g ∧ sl a 6 = .pointer (some ⟨g, 0, none⟩) ∧ Own w' g (dcells n rs) 32 | 10 => sl a 7 = .int .i64 lp | _ => True) ⟨_, _, _, _, _, _, _, _, _, _, rfl, by rw [← hwd]; exact Below.refl _ _⟩ ?_ ?_
  · refine (AllOps.cons ?_ (AllOps.cons ?_ (AllOps.cons ?_ (AllOps.cons ?_ (AllOps.cons ?_ (AllOps.cons ?_ (AllOps.cons ?_ (AllOps.cons ?_ (AllOps.cons ?_ (AllOps.cons ?_ (AllOps.cons ?_ AllOps.nil)))))))))))
    · rintro a w0 ⟨x6, x7, x9, x10, x11, x12, x13, x14, x15, x16, rfl, hB⟩ hd K hK
      go_wp2_with (first | (refine wpList_load_row rfl 32 _ rfl _ rfl 32 _ (0, 0) _ (hA1.below hB hlt1) Tryd.underlying32 rfl (row26 (d17 _ _ (hl.out))) ?_))
      refine hK _ _ ⟨_, _, _, _, _, _, _, _, _, _, rfl, hB⟩ (rfl) ?_
      rintro (_|_|_|_|_|_|_|_|_|_|_|_) hj hn h <;> first | exact h | exact absurd rfl hj | exact waits_no hn (by kernel_rfl)
    · rintro a w0 ⟨x6, x7, x9, x10, x11, x12, x13, x14, x15, x16, rfl, hB⟩ hd K hK
      go_wp2
      refine hK _ _ ⟨_, _, _, _, _, _, _, _, _, _, rfl, hB⟩ (rfl) ?_
      rintro (_|_|_|_|_|_|_|_|_|_|_|_) hj hn h <;> first | exact h | exact absurd rfl hj | exact waits_no hn (by kernel_rfl)
    · rintro a w0 ⟨x6, x7, x9, x10, x11, x12, x13, x14, x15, x16, rfl, hB⟩ hd K hK
      go_wp2
      refine hK _ _ ⟨_, _, _, _, _, _, _, _, _, _, rfl, hB⟩ (rfl) ?_
      rintro (_|_|_|_|_|_|_|_|_|_|_|_) hj hn h <;> first | exact h | exact absurd rfl hj | exact waits_no hn (by kernel_rfl)
    · rintro a w0 ⟨x6, x7, x9, x10, x11, x12, x13, x14, x15, x16, rfl, hB⟩ hd K hK
      have d0 : x11 = _ := hd 1 (by kernel_rfl)
      have d1 : x12 = _ := hd 2 (by kernel_rfl)
      subst d0 d1
      go_wp2_with (first | (go_at_call 77; ((with_reducible refine (hH.out _ (b1.trans (hB.mono b1.size))).mono ?_); rintro e w2 ⟨rfl, hB2⟩)))
      refine hK _ _ ⟨_, _, _, _, _, _, _, _, _, _, rfl, hB.trans (hB2.mono hB.size)⟩ (rfl) ?_
      rintro (_|_|_|_|_|_|_|_|_|_|_|_) hj hn h <;> first | exact h | exact absurd rfl hj | (obtain ⟨g, hg, e, cs, hcs, hO⟩ := h; exact ⟨g, hg, e, cs, hcs, hO.below hB2 hO.lt⟩) | (obtain ⟨g, hg, e, hO⟩ := h; exact ⟨g, hg, e, hO.below hB2 hO.lt⟩) | exact waits_no hn (by kernel_rfl)
    · rintro a w0 ⟨x6, x7, x9, x10, x11, x12, x13, x14, x15, x16, rfl, hB⟩ hd K hK
      have d0 : x10 = _ := hd 0 (by kernel_rfl)
      have d1 : x13 = _ := hd 3 (by kernel_rfl)
      subst d0 d1
      go_wp2_with (first | (go_at_call 76; ((with_reducible refine (hP.out _).mono ?_); rintro e w2 ⟨rfl, hB2⟩)))
      refine hK _ _ ⟨_, _, _, _, _, _, _, _, _, _, rfl, hB.trans (hB2.mono hB.size)⟩ (rfl) ?_
      rintro (_|_|_|_|_|_|_|_|_|_|_|_) hj hn h <;> first | exact h | exact absurd rfl hj | (obtain ⟨g, hg, e, cs, hcs, hO⟩ := h; exact ⟨g, hg, e, cs, hcs, hO.below hB2 hO.lt⟩) | (obtain ⟨g, hg, e, hO⟩ := h; exact ⟨g, hg, e, hO.below hB2 hO.lt⟩) | exact waits_no hn (by kernel_rfl)
    · rintro a w0 ⟨x6, x7, x9, x10, x11, x12, x13, x14, x15, x16, rfl, hB⟩ hd K hK
      have d0 : x14 = _ := hd 4 (by kernel_rfl)
      subst d0
      go_wp2
      refine hK _ _ ⟨_, _, _, _, _, _, _, _, _, _, rfl, hB⟩ (rfl) ?_
      rintro (_|_|_|_|_|_|_|_|_|_|_|_) hj hn h <;> first | exact h | exact absurd rfl hj | exact waits_no hn (by kernel_rfl)
    · rintro a w0 ⟨x6, x7, x9, x10, x11, x12, x13, x14, x15, x16, rfl, hB⟩ hd K hK
      have d0 : x9 = _ := hd 5 (by kernel_rfl)
      subst d0
      go_wp2
      refine hK _ _ ⟨_, _, _, _, _, _, _, _, _, _, rfl, hB⟩ (rfl) ?_
      rintro (_|_|_|_|_|_|_|_|_|_|_|_) hj hn h <;> first | exact h | exact absurd rfl hj | exact waits_no hn (by kernel_rfl)
    · rintro a w0 ⟨x6, x7, x9, x10, x11, x12, x13, x14, x15, x16, rfl, hB⟩ hd K hK
      have d0 : x9 = _ := hd 5 (by kernel_rfl)
      subst d0
      go_wp2
      refine hK _ _ ⟨_, _, _, _, _, _, _, _, _, _, rfl, hB⟩ (rfl) ?_
      rintro (_|_|_|_|_|_|_|_|_|_|_|_) hj hn h <;> first | exact h | exact absurd rfl hj | exact waits_no hn (by kernel_rfl)
    · rintro a w0 ⟨x6, x7, x9, x10, x11, x12, x13, x14, x15, x16, rfl, hB⟩ hd K hK
      go_wp2
      refine hK _ _ ⟨_, _, _, _, _, _, _, _, _, _, rfl, hB.alloc hB.size _⟩ (⟨_, hB.size, rfl, _, rfl, Own.new _ _ _⟩) ?_
      rintro (_|_|_|_|_|_|_|_|_|_|_|_) hj hn h <;> first | exact h | exact absurd rfl hj | exact waits_no hn (by kernel_rfl)
    · rintro a w0 ⟨x6, x7, x9, x10, x11, x12, x13, x14, x15, x16, rfl, hB⟩ hd K hK
      have d0 : x15 = _ := hd 6 (by kernel_rfl)
      have d8 := hd 8 (by kernel_rfl)
      obtain ⟨g, hg, e, cs, hcs, hO⟩ := d8
      have e : x6 = _ := e
      subst d0 e
      go_wp2_with (first | (refine wpList_store_own rfl 32 _ _ rfl _ _ rfl rfl 32 _ (hO) (row26 (d17 _ _ (hh.out))) (by rw [hcs, d17 _ _ hh.out]) (dcells_one _ _) ?_; intro w2 hO2 hN2))
      refine hK _ _ ⟨_, _, _, _, _, _, _, _, _, _, rfl, hB.trans (hN2.below.mono hg)⟩ (⟨g, hg, rfl, hO2⟩) ?_
      rintro (_|_|_|_|_|_|_|_|_|_|_|_) hj hn h <;> first | exact h | exact absurd rfl hj | exact ⟨g, hg, rfl, _, d17 _ _ hh.out, hO2⟩ | exact waits_no hn (by kernel_rfl)
    · rintro a w0 ⟨x6, x7, x9, x10, x11, x12, x13, x14, x15, x16, rfl, hB⟩ hd K hK
      have d0 : x16 = _ := hd 7 (by kernel_rfl)
      subst d0
      go_wp2
      refine hK _ _ ⟨_, _, _, _, _, _, _, _, _, _, rfl, hB⟩ (rfl) ?_
      rintro (_|_|_|_|_|_|_|_|_|_|_|_) hj hn h <;> first | exact h | exact absurd rfl hj | exact waits_no hn (by kernel_rfl)
  · rintro a w1 ⟨x6, x7, x9, x10, x11, x12, x13, x14, x15, x16, rfl, hB⟩ hF
    have e0 : x7 = _ := hF 10 (by decide)
    have d9 := hF 9 (by decide)
    obtain ⟨g, hg, e, hOg⟩ := d9
    have e : x6 = _ := e
    subst e e0
    have b2 : Below w.heap.size w w1 := b1.trans (hB.mono b1.size)
    clear hwd hB hA1 b1 hF
    subst hc
    go_wp2_with (first
      | (refine wpList_load_row rfl 32 _ rfl _ rfl 32 _ (0, 0) _ (hOg) Tryd.underlying32 rfl (row26 (d17 _ _ (hh.out))) ?_)
      | (go_at_call 78; ((with_reducible refine (hFh.out _).mono ?_); rintro e w3 ⟨rfl, hB3⟩))
      | (go_at_call 67; ((with_reducible refine (hch.out _).mono ?_); rintro e w4 ⟨rfl, rfl⟩))
      | (go_at_call 67; ((with_reducible refine (hca.out _).mono ?_); rintro e w5 ⟨rfl, rfl⟩)))
    go_ret2
    exact ⟨rfl, b2.trans (hB3.mono b2.size)⟩
set_option maxRecDepth 100000 in
set_option maxHeartbeats 2000000 in
theorem actS_lt (n : Int) (ms es rs : List Int) (hms : ms.length = 16) (hrs : rs.length = 16) (s h : ByteArray) (lp ch ca : Int) (w : World)
    (hH : ∀ w1, Below w.heap.size w w1 → Calls Tryd.prog 77 #[.string s, .string s] w1 fun e w2 => e = .returned (.agg (dcells n es)) ∧ Below w1.heap.size w1 w2)
    (hP : ∀ w1, Calls Tryd.prog 76 #[.agg (dcells n ms), .agg (dcells n es)] w1 fun e w2 => e = .returned (.tuple #[.agg (dcells n rs), .int .i64 lp]) ∧ Below w1.heap.size w1 w2)
    (hF : ∀ w1, Calls Tryd.prog 78 #[.agg (dcells n rs), .bool false] w1 fun e w2 => e = .returned (.string h) ∧ Below w1.heap.size w1 w2)
    (hch : ∀ w1, Calls Tryd.prog 67 #[.string h] w1 fun e w2 => e = .returned (.int .i64 ch) ∧ w2 = w1)
    (hca : ∀ w1, Calls Tryd.prog 67 #[.string s] w1 fun e w2 => e = .returned (.int .i64 ca) ∧ w2 = w1) (hc : ch < ca) :
    Calls Tryd.prog 56 #[.agg (dcells n ms), .string s] w fun e w' => e = .returned (.tuple #[.string ⟨#[]⟩, .int .i64 lp]) ∧ Below w.heap.size w w' := by
  have hl := Lib.hid hms
  have hh := Lib.hid hrs
  have hH := Lib.hid hH
  have hP := Lib.hid hP
  have hFh := Lib.hid hF
  clear hF
  have hch := Lib.hid hch
  have hca := Lib.hid hca
  clear hms hrs
  go_enter Tryd.func56, Tryd.ntmps56
  go_wp2_with fail
  have hA1 : Own ((w.alloc (.cells (dcells n ms) 32)).drew) w.heap.size (dcells n ms) 32 := Own.new _ _ _
  have b1 : Below w.heap.size w ((w.alloc (.cells (dcells n ms) 32)).drew) := ((Below.refl _ _).alloc (Nat.le_refl _) _).drew
  obtain ⟨wd, hwd⟩ : ∃ wd, ((w.alloc (.cells (dcells n ms) 32)).drew) = wd := ⟨_, rfl⟩
  rw [hwd] at hA1 b1
  have hlt1 := hA1.lt
  refine wp_region_facts (by kernel_rfl) (by kernel_rfl) (fun a w' => ∃ x6 x7 x9 x10 x11 x12 x13 x14 x15 x16 : Value, a = ⟨List.toArray [.agg (dcells n ms), .string s, .pointer (some ⟨w.heap.size, 0, none⟩), undef, .string ⟨#[]⟩, .int .i64 0, x6, x7, undef, x9, x10, x11, x12, x13, x14, x15, x16, undef, undef, undef, undef, undef, undef, undef, undef, undef, undef], []⟩ ∧ Below wd.heap.size wd w') (fun j a w' => match j with | 0 => sl a 10 = .agg (dcells n ms) | 1 => sl a 11 = .string s | 2 => sl a 12 = .string s | 3 => sl a 13 = .agg (dcells n es) | 4 => sl a 14 = .tuple #[.agg (dcells n rs), .int .i64 lp] | 5 => sl a 9 = .tuple #[.agg (dcells n rs), .int .i64 lp] | 6 => sl a 15 = .agg (dcells n rs) | 7 => sl a 16 = .int .i64 lp | 8 => ∃ g, wd.heap.size ≤ g ∧ sl a 6 = .pointer (some ⟨g, 0, none⟩) ∧ ∃ cs, cs.size = 17 ∧ Own w' g cs 32 | 9 => ∃ g, wd.heap.size ≤ g ∧ sl a 6 = .pointer (some ⟨g, 0, none⟩) ∧ Own w' g (dcells n rs) 32 | 10 => sl a 7 = .int .i64 lp | _ => True) ⟨_, _, _, _, _, _, _, _, _, _, rfl, by rw [← hwd]; exact Below.refl _ _⟩ ?_ ?_
  · refine (AllOps.cons ?_ (AllOps.cons ?_ (AllOps.cons ?_ (AllOps.cons ?_ (AllOps.cons ?_ (AllOps.cons ?_ (AllOps.cons ?_ (AllOps.cons ?_ (AllOps.cons ?_ (AllOps.cons ?_ (AllOps.cons ?_ AllOps.nil)))))))))))
    · rintro a w0 ⟨x6, x7, x9, x10, x11, x12, x13, x14, x15, x16, rfl, hB⟩ hd K hK
      go_wp2_with (first | (refine wpList_load_row rfl 32 _ rfl _ rfl 32 _ (0, 0) _ (hA1.below hB hlt1) Tryd.underlying32 rfl (row26 (d17 _ _ (hl.out))) ?_))
      refine hK _ _ ⟨_, _, _, _, _, _, _, _, _, _, rfl, hB⟩ (rfl) ?_
      rintro (_|_|_|_|_|_|_|_|_|_|_|_) hj hn h <;> first | exact h | exact absurd rfl hj | exact waits_no hn (by kernel_rfl)
    · rintro a w0 ⟨x6, x7, x9, x10, x11, x12, x13, x14, x15, x16, rfl, hB⟩ hd K hK
      go_wp2
      refine hK _ _ ⟨_, _, _, _, _, _, _, _, _, _, rfl, hB⟩ (rfl) ?_
      rintro (_|_|_|_|_|_|_|_|_|_|_|_) hj hn h <;> first | exact h | exact absurd rfl hj | exact waits_no hn (by kernel_rfl)
    · rintro a w0 ⟨x6, x7, x9, x10, x11, x12, x13, x14, x15, x16, rfl, hB⟩ hd K hK
      go_wp2
      refine hK _ _ ⟨_, _, _, _, _, _, _, _, _, _, rfl, hB⟩ (rfl) ?_
      rintro (_|_|_|_|_|_|_|_|_|_|_|_) hj hn h <;> first | exact h | exact absurd rfl hj | exact waits_no hn (by kernel_rfl)
    · rintro a w0 ⟨x6, x7, x9, x10, x11, x12, x13, x14, x15, x16, rfl, hB⟩ hd K hK
      have d0 : x11 = _ := hd 1 (by kernel_rfl)
      have d1 : x12 = _ := hd 2 (by kernel_rfl)
      subst d0 d1
      go_wp2_with (first | (go_at_call 77; ((with_reducible refine (hH.out _ (b1.trans (hB.mono b1.size))).mono ?_); rintro e w2 ⟨rfl, hB2⟩)))
      refine hK _ _ ⟨_, _, _, _, _, _, _, _, _, _, rfl, hB.trans (hB2.mono hB.size)⟩ (rfl) ?_
      rintro (_|_|_|_|_|_|_|_|_|_|_|_) hj hn h <;> first | exact h | exact absurd rfl hj | (obtain ⟨g, hg, e, cs, hcs, hO⟩ := h; exact ⟨g, hg, e, cs, hcs, hO.below hB2 hO.lt⟩) | (obtain ⟨g, hg, e, hO⟩ := h; exact ⟨g, hg, e, hO.below hB2 hO.lt⟩) | exact waits_no hn (by kernel_rfl)
    · rintro a w0 ⟨x6, x7, x9, x10, x11, x12, x13, x14, x15, x16, rfl, hB⟩ hd K hK
      have d0 : x10 = _ := hd 0 (by kernel_rfl)
      have d1 : x13 = _ := hd 3 (by kernel_rfl)
      subst d0 d1
      go_wp2_with (first | (go_at_call 76; ((with_reducible refine (hP.out _).mono ?_); rintro e w2 ⟨rfl, hB2⟩)))
      refine hK _ _ ⟨_, _, _, _, _, _, _, _, _, _, rfl, hB.trans (hB2.mono hB.size)⟩ (rfl) ?_
      rintro (_|_|_|_|_|_|_|_|_|_|_|_) hj hn h <;> first | exact h | exact absurd rfl hj | (obtain ⟨g, hg, e, cs, hcs, hO⟩ := h; exact ⟨g, hg, e, cs, hcs, hO.below hB2 hO.lt⟩) | (obtain ⟨g, hg, e, hO⟩ := h; exact ⟨g, hg, e, hO.below hB2 hO.lt⟩) | exact waits_no hn (by kernel_rfl)
    · rintro a w0 ⟨x6, x7, x9, x10, x11, x12, x13, x14, x15, x16, rfl, hB⟩ hd K hK
      have d0 : x14 = _ := hd 4 (by kernel_rfl)
      subst d0
      go_wp2
      refine hK _ _ ⟨_, _, _, _, _, _, _, _, _, _, rfl, hB⟩ (rfl) ?_
      rintro (_|_|_|_|_|_|_|_|_|_|_|_) hj hn h <;> first | exact h | exact absurd rfl hj | exact waits_no hn (by kernel_rfl)
    · rintro a w0 ⟨x6, x7, x9, x10, x11, x12, x13, x14, x15, x16, rfl, hB⟩ hd K hK
      have d0 : x9 = _ := hd 5 (by kernel_rfl)
      subst d0
      go_wp2
      refine hK _ _ ⟨_, _, _, _, _, _, _, _, _, _, rfl, hB⟩ (rfl) ?_
      rintro (_|_|_|_|_|_|_|_|_|_|_|_) hj hn h <;> first | exact h | exact absurd rfl hj | exact waits_no hn (by kernel_rfl)
    · rintro a w0 ⟨x6, x7, x9, x10, x11, x12, x13, x14, x15, x16, rfl, hB⟩ hd K hK
      have d0 : x9 = _ := hd 5 (by kernel_rfl)
      subst d0
      go_wp2
      refine hK _ _ ⟨_, _, _, _, _, _, _, _, _, _, rfl, hB⟩ (rfl) ?_
      rintro (_|_|_|_|_|_|_|_|_|_|_|_) hj hn h <;> first | exact h | exact absurd rfl hj | exact waits_no hn (by kernel_rfl)
    · rintro a w0 ⟨x6, x7, x9, x10, x11, x12, x13, x14, x15, x16, rfl, hB⟩ hd K hK
      go_wp2
      refine hK _ _ ⟨_, _, _, _, _, _, _, _, _, _, rfl, hB.alloc hB.size _⟩ (⟨_, hB.size, rfl, _, rfl, Own.new _ _ _⟩) ?_
      rintro (_|_|_|_|_|_|_|_|_|_|_|_) hj hn h <;> first | exact h | exact absurd rfl hj | exact waits_no hn (by kernel_rfl)
    · rintro a w0 ⟨x6, x7, x9, x10, x11, x12, x13, x14, x15, x16, rfl, hB⟩ hd K hK
      have d0 : x15 = _ := hd 6 (by kernel_rfl)
      have d8 := hd 8 (by kernel_rfl)
      obtain ⟨g, hg, e, cs, hcs, hO⟩ := d8
      have e : x6 = _ := e
      subst d0 e
      go_wp2_with (first | (refine wpList_store_own rfl 32 _ _ rfl _ _ rfl rfl 32 _ (hO) (row26 (d17 _ _ (hh.out))) (by rw [hcs, d17 _ _ hh.out]) (dcells_one _ _) ?_; intro w2 hO2 hN2))
      refine hK _ _ ⟨_, _, _, _, _, _, _, _, _, _, rfl, hB.trans (hN2.below.mono hg)⟩ (⟨g, hg, rfl, hO2⟩) ?_
      rintro (_|_|_|_|_|_|_|_|_|_|_|_) hj hn h <;> first | exact h | exact absurd rfl hj | exact ⟨g, hg, rfl, _, d17 _ _ hh.out, hO2⟩ | exact waits_no hn (by kernel_rfl)
    · rintro a w0 ⟨x6, x7, x9, x10, x11, x12, x13, x14, x15, x16, rfl, hB⟩ hd K hK
      have d0 : x16 = _ := hd 7 (by kernel_rfl)
      subst d0
      go_wp2
      refine hK _ _ ⟨_, _, _, _, _, _, _, _, _, _, rfl, hB⟩ (rfl) ?_
      rintro (_|_|_|_|_|_|_|_|_|_|_|_) hj hn h <;> first | exact h | exact absurd rfl hj | exact waits_no hn (by kernel_rfl)
  · rintro a w1 ⟨x6, x7, x9, x10, x11, x12, x13, x14, x15, x16, rfl, hB⟩ hF
    have e0 : x7 = _ := hF 10 (by decide)
    have d9 := hF 9 (by decide)
    obtain ⟨g, hg, e, hOg⟩ := d9
    have e : x6 = _ := e
    subst e e0
    have b2 : Below w.heap.size w w1 := b1.trans (hB.mono b1.size)
    clear hwd hB hA1 b1 hF
    skip
    go_wp2_with (first
      | (refine wpList_load_row rfl 32 _ rfl _ rfl 32 _ (0, 0) _ (hOg) Tryd.underlying32 rfl (row26 (d17 _ _ (hh.out))) ?_)
      | (go_at_call 78; ((with_reducible refine (hFh.out _).mono ?_); rintro e w3 ⟨rfl, hB3⟩))
      | (go_at_call 67; ((with_reducible refine (hch.out _).mono ?_); rintro e w4 ⟨rfl, rfl⟩))
      | (go_at_call 67; ((with_reducible refine (hca.out _).mono ?_); rintro e w5 ⟨rfl, rfl⟩)))
    go_ret2
    exact ⟨rfl, b2.trans (hB3.mono b2.size)⟩
end Go.Proofs.YtopenojociafaaaDoor
namespace Go.Proofs.YtopenojociafaaaDoor
open Go.RowKit
/-- Stands where an append stands, and nowhere else. -/
theorem at_append {P : Program} {ops : Array Oper} {rest : List Oper} {a : Act} {w : World} {Q : Exit → Act → World → Prop} {d ty ps af} (s x : Operand) (ts : Array TypeId)
    (h : wpList P ops Q (⟨d, .call { callee := .builtin .append, args := #[s, x], argTypes := ts }, ty, ps, af, none⟩ :: rest) a w) : wpList P ops Q (⟨d, .call { callee := .builtin .append, args := #[s, x], argTypes := ts }, ty, ps, af, none⟩ :: rest) a w := h
theorem Own.ne {w : World} {b b' : Nat} {cs cs' : Array Value} {t t' : TypeId} (h : Own w b cs t) (h' : Own w b' cs' t') (ht : t ≠ t') : b ≠ b' := by
  intro e
  subst e
  have : some (Obj.cells cs t (0, 0)) = some (Obj.cells cs' t' (0, 0)) := (show w.heap[b]? = _ from h).symm.trans h'
  simp at this
  exact ht this.2
theorem Ints.neD {w : World} {base g cap b : Nat} {xs : List Int} {cs : Array Value} (h : Ints w base g cap xs) (ho : Own w b cs 32) : b ≠ g := by
  obtain ⟨_, _, _, cur, hi, _⟩ := h
  exact ho.ne hi (by decide)
theorem Ints.grown {w w' : World} {base g cap b : Nat} {xs : List Int} (h : Ints w base g cap xs) (hg : w.grownBy w' (some b)) (hb : g ≠ b) : Ints w' base g cap xs := by
  obtain ⟨h1, h2, h3, cur, ho, hs, ht⟩ := h
  exact ⟨h1, h2, h3, cur, ho.grown hg hb, hs, ht⟩
def nl (l : List Nat) : List Int := l.map (fun y : Nat => (y : Int))
theorem nl_get (l : List Nat) (k : Nat) (h : k < l.length) : (nl l).getD k 0 = ((l.getD k 0 : Nat) : Int) := by
  simp [nl, h]
theorem nl_app (l : List Nat) (k : Nat) : nl (l ++ [k]) = nl l ++ [(k : Int)] := by simp [nl]
theorem nl_len (l : List Nat) : (nl l).length = l.length := by simp [nl]
set_option maxRecDepth 100000 in
set_option maxHeartbeats 8000000 in
theorem hdS_any (a b : ByteArray) (n : Nat) (ha : a.size = n) (hb : b.size = n) (o1 o2 : List Int) (h1 : arcO a.data.toList = some o1) (h2 : arcO b.data.toList = some o2) (he : (dm1 n o1 o2 n).2.1.length = (dm1 n o1 o2 n).2.2.length) (w : World) :
    Calls Tryd.prog 77 #[.string a, .string b] w fun e w' => e = .returned (.agg (dcells n (dmS n o1 o2))) ∧ Below w.heap.size w w' := by
  subst ha
  obtain ⟨O1, n1, n8⟩ := arc_O8 h1
  obtain ⟨O2, _, _⟩ := arc_O8 h2
  rw [Array.length_toList] at n1 n8
  have n1 : 1 ≤ a.size := by have : a.data.size = a.size := rfl; omega
  have n8 : a.size ≤ 8 := by have : a.data.size = a.size := rfl; omega
  have hmk := mk0
  have hA := Lib.hid (fun w => (arcs_any a w (by omega)).mono fun e w' (h : ArcPost _ w e w') => show e = .returned (.tuple #[.agg (icells o1), .bool true]) ∧ Below w.heap.size w w' from by
    obtain ⟨o, c, _, rfl, hy, hn, hB⟩ := h
    cases c with
    | true => have := hy rfl; rw [h1] at this; cases this; exact ⟨rfl, hB⟩
    | false => have := hn rfl; rw [h1] at this; cases this)
  have hC := Lib.hid (fun w => (arcs_any b w (by omega)).mono fun e w' (h : ArcPost _ w e w') => show e = .returned (.tuple #[.agg (icells o2), .bool true]) ∧ Below w.heap.size w w' from by
    obtain ⟨o, c, _, rfl, hy, hn, hB⟩ := h
    cases c with
    | true => have := hy rfl; rw [h2] at this; cases this; exact ⟨rfl, hB⟩
    | false => have := hn rfl; rw [h2] at this; cases this)
  have O1 := Lib.hid O1
  have O2 := Lib.hid O2
  have HE := Lib.hid he
  have lz := Lib.hid zlen
  have b1 : Tryd.prog.built 32 [(0, .int .i64 (a.size : Int))] = some (dcells a.size zeros) := built26one a.size
  clear h1 h2 he
  go_enter Tryd.func77, Tryd.ntmps77
  go_wp2_with (first
    | (refine wpList_build_of rfl 32 #[(0, .tmp 17)] rfl (dcells a.size zeros) ?_ ?_; (exact b1))
    | (refine wpList_store_own rfl 32 _ _ rfl _ _ rfl rfl 32 _ (Own.at _ _ _ (by simp)) (row26 (d17 _ _ (zlen))) (dz a.size zeros zlen) (dcells_one _ _) ?_; intro w3 hO3 hN3)
    | (go_at_call 68; ((with_reducible refine (hC.out _).mono ?_); rintro e w6 ⟨rfl, hB6⟩))
    | (go_at_call 68; ((with_reducible refine (hA.out _).mono ?_); rintro e w4 ⟨rfl, hB4⟩))
    | (refine wpList_store_own rfl 81 _ _ rfl _ _ rfl rfl 81 _ (Own.new w6 _ _) (row8i (i8s _ (O2.out.1))) (i88 z8l O2.out.1) (one8i _) ?_; intro w7 hO7 hN7)
    | (refine wpList_store_own rfl 81 _ _ rfl _ _ rfl rfl 81 _ (Own.new w4 _ _) (row8i (i8s _ (O1.out.1))) (i88 z8l O1.out.1) (one8i _) ?_; intro w5 hO5 hN5))
  have s3 : w3.heap.size = w.heap.size + 4 := by rw [hN3.size]; simp
  have s4 := hB4.size
  have s5 : w5.heap.size = w4.heap.size + 1 := by rw [hN5.size]; simp
  have s6 := hB6.size
  have up5 : ∀ {b : Nat} {cs : Array Value} {t : TypeId}, Own w5 b cs t → Own w7 b cs t := fun {b cs t} h => by
    have lt := h.lt
    exact ((h.below hB6 lt).alloc _).only hN7 (by omega)
  have up : ∀ {b : Nat} {cs : Array Value} {t : TypeId}, Own w3 b cs t → Own w7 b cs t := fun {b cs t} h => by
    have lt := h.lt
    exact up5 (((h.below hB4 lt).alloc _).only hN5 (by omega))
  have hZ7 : Own w7 w.heap.size zcells 32 := up ((((Own.new w _ _).alloc _).alloc _).alloc _ |>.only hN3 (by omega))
  have hD7 := up hO3
  have h97 := up5 hO5
  have hF7 : Ints w7 w.heap.size (w.heap.size + 1) 0 (nl []) := by
    obtain ⟨q1, q2, q3, cur, ho, q4, q5⟩ := (((Ints.new (w.alloc (.cells zcells 32)) w.heap.size (w.heap.size + 1) 0 (by simp) (by simp) (by decide) #[] rfl).alloc (.cells #[] 2)).alloc (.cells zcells 32)).only hN3 (by omega)
    exact ⟨q1, q2, q3, cur, up ho, q4, q5⟩
  have hS7 : Ints w7 w.heap.size (w.heap.size + 1 + 1) 0 (nl []) := by
    obtain ⟨q1, q2, q3, cur, ho, q4, q5⟩ := ((Ints.new ((w.alloc (.cells zcells 32)).alloc (.cells #[] 2)) w.heap.size (w.heap.size + 1 + 1) 0 (by simp; omega) (by simp) (by decide) #[] rfl).alloc (.cells zcells 32)).only hN3 (by omega)
    exact ⟨q1, q2, q3, cur, up ho, q4, q5⟩
  have hB3 : Below w.heap.size w w3 := (((((Below.refl _ _).alloc (Nat.le_refl _) _).alloc (by simp) _).alloc (by simp; omega) _).alloc (by simp; omega) _).trans (hN3.below.mono (by omega))
  have hB7 : Below w.heap.size w w7 := by
    have x4 := hB3.trans (hB4.mono (by omega))
    have x5 := (x4.alloc (by omega) _).trans (hN5.below.mono (by omega))
    have x6 := x5.trans (hB6.mono (by omega))
    exact (x6.alloc (by omega) _).trans (hN7.below.mono (by omega))
  obtain ⟨D, hDD⟩ : ∃ D, w.heap.size + 1 + 1 + 1 = D := ⟨_, rfl⟩
  obtain ⟨g9, hg9⟩ : ∃ g9, w4.heap.size = g9 := ⟨_, rfl⟩
  obtain ⟨g11, hg11⟩ : ∃ g11, w6.heap.size = g11 := ⟨_, rfl⟩
  rw [hDD] at hD7
  rw [hg9] at h97
  rw [hg11] at hO7
  rw [hDD, hg9, hg11]
  have A1 := Lib.hid hZ7
  have A2 := Lib.hid hD7
  have A3 := Lib.hid h97
  have A4 := Lib.hid hO7
  have A5 := Lib.hid hF7
  have A6 := Lib.hid hS7
  have A7 := Lib.hid hB7
  have HDw := Lib.hid (show w.heap.size < D by omega)
  clear hZ7 hD7 h97 hO7 hF7 hS7 hB7 hDD hg9 hg11 up up5 hB3 hB4 hB6 hN3 hN5 hN7 hO3 hO5 s3 s4 s5 s6 hmk b1
  go_loopw [7, 8, 13] (fun vf vs i wr => ∃ (k : Nat) (ms : List Int) (f s' : List Nat) (gf cf gs cs : Nat), k ≤ a.size ∧ i = .int .i64 k ∧ vf = .slice (some ⟨gf, 0, none⟩) f.length cf ∧ vs = .slice (some ⟨gs, 0, none⟩) s'.length cs ∧ Hid (dm1 a.size o1 o2 k = (ms, f, s')) ∧ Own wr w.heap.size zcells 32 ∧ Own wr D (dcells a.size ms) 32 ∧ Own wr g9 (icells o1) 81 ∧ Own wr g11 (icells o2) 81 ∧ Ints wr w.heap.size gf cf (nl f) ∧ Ints wr w.heap.size gs cs (nl s') ∧ gf ≠ gs ∧ Below w.heap.size w wr) (fun _ _ i _ => (a.size - intOf i).toNat)
  case atStart => exact ⟨0, zeros, [], [], _, _, _, _, by omega, rfl, rfl, rfl, Lib.hid rfl, A1.out, A2.out, A3.out, A4.out, A5.out, A6.out, by omega, A7.out⟩
  case round =>
    clear A1 A2 A3 A4 A5 A6 A7 hA hC
    obtain ⟨k, ms, f, s', gf, cf, gs, cs, hk, rfl, rfl, rfl, hP, hZ, hD, h9, h11, hF, hS, hfs, hB⟩ := hrel
    have hml := Lib.hid (show ms.length = 16 by have := dm1_len a.size o1 o2 k; rw [hP.out] at this; exact this)
    have hbd := Lib.hid (show (f.length ≤ k ∧ ∀ y ∈ f, y < k) ∧ (s'.length ≤ k ∧ ∀ y ∈ s', y < a.size + k) by have := dm1_bd a.size o1 o2 k; rw [hP.out] at this; exact this)
    by_cases hlt : k < a.size
    · have hltI : (k : Int) < a.size := by omega
      have fl := hbd.out.1.1
      have sl := hbd.out.2.1
      obtain ⟨x, hx⟩ : ∃ x, o1.getD k 0 = x := ⟨_, rfl⟩
      obtain ⟨y, hy⟩ : ∃ y, o2.getD k 0 = y := ⟨_, rfl⟩
      have x0 := O1.out.2 k
      have y0 := O2.out.2 k
      rw [hx] at x0
      rw [hy] at y0
      have c9 : wr.cell? ⟨g9, k, none⟩ = some (.int .i64 x) := by rw [h9.cell, icells_get _ _ (by rw [O1.out.1]; omega), hx]
      obtain ⟨W1, hW1⟩ : ∃ W1, W1 = wr.setCell ⟨D, 1 + k, none⟩ (.int .u8 x) := ⟨_, rfl⟩
      obtain ⟨W2, hW2⟩ : ∃ W2, W2 = W1.setCell ⟨D, 1 + (a.size + k), none⟩ (.int .u8 ((a.size : Int) + y)) := ⟨_, rfl⟩
      have d1 : wr.cell? ⟨D, 1 + k, none⟩ = some (.int .u8 (ms.getD k 0)) := by rw [hD.cell, dcells_get _ _ _ (by rw [hml.out]; omega)]
      have f1 := hD.free (1 + k)
      have e91 : D ≠ g9 := hD.ne h9 (by decide)
      have e11 : D ≠ g11 := hD.ne h11 (by decide)
      have D1 : Own W1 D (dcells a.size (ms.set k x)) 32 := by rw [hW1]; have := hD.set (1 + k) (.int .u8 x); rw [dcells_set] at this; exact this
      have N1 : Only D wr W1 := by rw [hW1]; exact Only.set _ _ _ _
      have N2 : Only D W1 W2 := by rw [hW2]; exact Only.set _ _ _ _
      have N12 := N1.trans N2
      have D2 : Own W2 D (dcells a.size ((ms.set k x).set (a.size + k) ((a.size : Int) + y))) 32 := by rw [hW2]; have := D1.set (1 + (a.size + k)) (.int .u8 ((a.size : Int) + y)); rw [dcells_set] at this; exact this
      have c11 : W1.cell? ⟨g11, k, none⟩ = some (.int .i64 y) := by rw [(h11.only N1 e11.symm).cell, icells_get _ _ (by rw [O2.out.1]; omega), hy]
      have c11b : wr.cell? ⟨g11, k, none⟩ = some (.int .i64 y) := by rw [h11.cell, icells_get _ _ (by rw [O2.out.1]; omega), hy]
      have d3 : wr.cell? ⟨D, 1 + (a.size + k), none⟩ = some (.int .u8 (ms.getD (a.size + k) 0)) := by rw [hD.cell, dcells_get _ _ _ (by rw [hml.out]; omega)]
      have f3 := hD.free (1 + (a.size + k))
      have d2 : W1.cell? ⟨D, 1 + (a.size + k), none⟩ = some (.int .u8 ((ms.set k x).getD (a.size + k) 0)) := by rw [D1.cell, dcells_get _ _ _ (by rw [List.length_set, hml.out]; omega)]
      have f2 := D1.free (1 + (a.size + k))
      have K9 := Lib.hid (h9.only N12 e91.symm)
      have K11 := Lib.hid (h11.only N12 e11.symm)
      have r9 : W2.cell? ⟨g9, k, none⟩ = some (.int .i64 x) := by rw [K9.out.cell, icells_get _ _ (by rw [O1.out.1]; omega), hx]
      have r11 : W2.cell? ⟨g11, k, none⟩ = some (.int .i64 y) := by rw [K11.out.cell, icells_get _ _ (by rw [O2.out.1]; omega), hy]
      have KD := Lib.hid D2
      have KZ := Lib.hid (hZ.only N12 (by have := HDw.out; omega))
      have KF := Lib.hid (hF.only N12 (fun e => hF.neD hD e.symm))
      have KS := Lib.hid (hS.only N12 (fun e => hS.neD hD e.symm))
      have KB := Lib.hid (hB.trans (N12.below.mono (by have := HDw.out; omega)))
      have KW := Lib.hid N12.size
      have HX := Lib.hid hx
      have HY := Lib.hid hy
      have w1 : IntKind.u8.wrap x = x := IntWalk.u8_in _ (by omega)
      have w2 : IntKind.u8.wrap ((a.size : Int) + y) = (a.size : Int) + y := IntWalk.u8_in _ (by omega)
      have i1 : (a.size : Int) + (k : Int) < 16 := by omega
      have i2 : ((a.size : Int) + (k : Int)).toNat = a.size + k := by omega
      clear hx hy D1 D2 N1 N2 N12
      obtain ⟨x1, x2⟩ := x0
      obtain ⟨y1, y2⟩ := y0
      subst hW2
      subst hW1
      by_cases cx : x = (k : Int)
      · subst cx
        by_cases cy : y = (k : Int)
        · subst cy
          have HN := Lib.hid (show dm1 a.size o1 o2 (k + 1) = ((ms.set k (k : Int)).set (a.size + k) ((a.size : Int) + (k : Int)), f ++ [k], s' ++ [a.size + k]) by rw [dm1, hP.out]; simp only [HX.out, HY.out]; simp only [if_true])
          clear hP
          go_wp2_with (first
            | ((with_reducible refine at_append (.tmp 59) (.tmp 61) _ ?_); refine wpList_append_ints_at rfl (.tmp 59) (.tmp 61) rfl w.heap.size gf cf (nl f) (k : Int) (by simp [ival, nl]; rfl) (KF.out.alloc _) ⟨wr.heap.size, 0, none⟩ 1 rfl ((Own.at _ _ _ KW.out).cell 0) (by rw [nl_len]; omega) (by have := KB.out.size; simp at this; simp; omega) ?_; intro g2 c2 w8 hI8 hG8 hat8; have R11 := Lib.hid ((K11.out.alloc (Obj.cells #[Value.int .i64 (k : Int)] 2)).grown hG8 (hF.ne8 h11)); have q11 := R11.out.cell k; rw [icells_get _ _ (by rw [O2.out.1]; omega), HY.out] at q11; have KS8 := Lib.hid ((KS.out.alloc (Obj.cells #[Value.int .i64 (k : Int)] 2)).grown hG8 (fun e => hfs e.symm)); have KB8 := Lib.hid ((KB.out.alloc KB.out.size (Obj.cells #[Value.int .i64 (k : Int)] 2)).grown hG8 (by have := KB.out.size; simp at this; simp; omega) (fun j e => by have := hF.1; simp at e; omega)))
            | ((with_reducible refine at_append (.tmp 68) (.tmp 72) _ ?_); refine wpList_append_ints_at rfl (.tmp 68) (.tmp 72) rfl w.heap.size gs cs (nl s') ((a.size : Int) + (k : Int)) (by simp [ival, nl]; rfl) (KS8.out.alloc _) ⟨w8.heap.size, 0, none⟩ 1 rfl ((Own.new _ _ _).cell 0) (by rw [nl_len]; omega) (by have := KB8.out.size; simp; omega) ?_; intro g3 c3 w9 hI9 hG9 hat9))
          have eS : ((a.size : Int) + (k : Int)) = ((a.size + k : Nat) : Int) := by omega
          rw [eS, ← nl_app] at hI9
          rw [← nl_app] at hI8
          have n2 : g2 ≠ gs := by
            rcases hat8 with e | e
            · omega
            · have := hS.lt; simp at e; omega
          have F9 := (hI8.alloc _).grown hG9 n2
          have n3 : g2 ≠ g3 := by
            rcases hat9 with e | e
            · omega
            · have := hI8.lt; simp at e; omega
          have D9 := (((KD.out.alloc (Obj.cells #[Value.int .i64 (k : Int)] 2)).grown hG8 (hF.neD hD)).alloc (Obj.cells #[Value.int .i64 ((a.size : Int) + (k : Int))] 2)).grown hG9 (hS.neD hD)
          have Z9 := (((KZ.out.alloc (Obj.cells #[Value.int .i64 (k : Int)] 2)).grown hG8 (hF.neD hZ)).alloc (Obj.cells #[Value.int .i64 ((a.size : Int) + (k : Int))] 2)).grown hG9 (hS.neD hZ)
          have N9 := (((K9.out.alloc (Obj.cells #[Value.int .i64 (k : Int)] 2)).grown hG8 (hF.ne8 h9)).alloc (Obj.cells #[Value.int .i64 ((a.size : Int) + (k : Int))] 2)).grown hG9 (hS.ne8 h9)
          have N11 := (R11.out.alloc (Obj.cells #[Value.int .i64 ((a.size : Int) + (k : Int))] 2)).grown hG9 (hS.ne8 h11)
          have B9 : Below w.heap.size w w9 := (KB8.out.alloc KB8.out.size _).grown hG9 (by have := KB8.out.size; simp; omega) (fun j e => by have := hS.1; simp at e; omega)
          go_wp2
          go_roundw
          case rel => exact ⟨k + 1, _, _, _, g2, c2, g3, c3, by omega, by go_num, by simp [ival, nl_len], by simp [ival, nl_len], HN, Z9, D9, N9, N11, F9, hI9, n3, B9⟩
          case measure => simp [intOf] <;> omega
        · have by' : (y == (k : Int)) = false := by simp [cy]
          have HN := Lib.hid (show dm1 a.size o1 o2 (k + 1) = ((ms.set k (k : Int)).set (a.size + k) ((a.size : Int) + y), f ++ [k], s') by rw [dm1, hP.out]; simp only [HX.out, HY.out]; simp only [if_true]; rw [if_neg cy])
          clear hP
          go_wp2_with (first
            | ((with_reducible refine at_append (.tmp 59) (.tmp 61) _ ?_); refine wpList_append_ints_at rfl (.tmp 59) (.tmp 61) rfl w.heap.size gf cf (nl f) (k : Int) (by simp [ival, nl]; rfl) (KF.out.alloc _) ⟨wr.heap.size, 0, none⟩ 1 rfl ((Own.at _ _ _ KW.out).cell 0) (by rw [nl_len]; omega) (by have := KB.out.size; simp at this; simp; omega) ?_; intro g2 c2 w8 hI8 hG8 hat8; have R11 := Lib.hid ((K11.out.alloc (Obj.cells #[Value.int .i64 (k : Int)] 2)).grown hG8 (hF.ne8 h11)); have q11 := R11.out.cell k; rw [icells_get _ _ (by rw [O2.out.1]; omega), HY.out] at q11))
          rw [← nl_app] at hI8
          have n2 : g2 ≠ gs := by
            rcases hat8 with e | e
            · omega
            · have := hS.lt; simp at e; omega
          have S9 := (KS.out.alloc (Obj.cells #[Value.int .i64 (k : Int)] 2)).grown hG8 (fun e => hfs e.symm)
          have D9 := (KD.out.alloc (Obj.cells #[Value.int .i64 (k : Int)] 2)).grown hG8 (hF.neD hD)
          have Z9 := (KZ.out.alloc (Obj.cells #[Value.int .i64 (k : Int)] 2)).grown hG8 (hF.neD hZ)
          have N9 := (K9.out.alloc (Obj.cells #[Value.int .i64 (k : Int)] 2)).grown hG8 (hF.ne8 h9)
          have B9 : Below w.heap.size w w8 := (KB.out.alloc KB.out.size _).grown hG8 (by have := KB.out.size; simp at this; simp; omega) (fun j e => by have := hF.1; simp at e; omega)
          go_wp2
          go_roundw
          case rel => exact ⟨k + 1, _, _, _, g2, c2, gs, cs, by omega, by go_num, by simp [ival, nl_len], rfl, HN, Z9, D9, N9, R11.out, hI8, S9, n2, B9⟩
          case measure => simp [intOf] <;> omega
      · have bx : (x == (k : Int)) = false := by simp [cx]
        by_cases cy : y = (k : Int)
        · subst cy
          have HN := Lib.hid (show dm1 a.size o1 o2 (k + 1) = ((ms.set k x).set (a.size + k) ((a.size : Int) + (k : Int)), f, s' ++ [a.size + k]) by rw [dm1, hP.out]; simp only [HX.out, HY.out]; simp only [if_true]; rw [if_neg cx])
          clear hP
          go_wp2_with (first
            | ((with_reducible refine at_append (.tmp 68) (.tmp 72) _ ?_); refine wpList_append_ints_at rfl (.tmp 68) (.tmp 72) rfl w.heap.size gs cs (nl s') ((a.size : Int) + (k : Int)) (by simp [ival, nl]; rfl) (KS.out.alloc _) ⟨wr.heap.size, 0, none⟩ 1 rfl ((Own.at _ _ _ KW.out).cell 0) (by rw [nl_len]; omega) (by have := KB.out.size; simp at this; simp; omega) ?_; intro g3 c3 w9 hI9 hG9 hat9))
          have eS : ((a.size : Int) + (k : Int)) = ((a.size + k : Nat) : Int) := by omega
          rw [eS, ← nl_app] at hI9
          have n3 : gf ≠ g3 := by
            rcases hat9 with e | e
            · omega
            · have := hF.lt; simp at e; omega
          have F9 := (KF.out.alloc (Obj.cells #[Value.int .i64 ((a.size : Int) + (k : Int))] 2)).grown hG9 hfs
          have D9 := (KD.out.alloc (Obj.cells #[Value.int .i64 ((a.size : Int) + (k : Int))] 2)).grown hG9 (hS.neD hD)
          have Z9 := (KZ.out.alloc (Obj.cells #[Value.int .i64 ((a.size : Int) + (k : Int))] 2)).grown hG9 (hS.neD hZ)
          have N9 := (K9.out.alloc (Obj.cells #[Value.int .i64 ((a.size : Int) + (k : Int))] 2)).grown hG9 (hS.ne8 h9)
          have N11 := (K11.out.alloc (Obj.cells #[Value.int .i64 ((a.size : Int) + (k : Int))] 2)).grown hG9 (hS.ne8 h11)
          have B9 : Below w.heap.size w w9 := (KB.out.alloc KB.out.size _).grown hG9 (by have := KB.out.size; simp at this; simp; omega) (fun j e => by have := hS.1; simp at e; omega)
          go_wp2
          go_roundw
          case rel => exact ⟨k + 1, _, _, _, gf, cf, g3, c3, by omega, by go_num, rfl, by simp [ival, nl_len], HN, Z9, D9, N9, N11, F9, hI9, n3, B9⟩
          case measure => simp [intOf] <;> omega
        · have by' : (y == (k : Int)) = false := by simp [cy]
          have HN := Lib.hid (show dm1 a.size o1 o2 (k + 1) = ((ms.set k x).set (a.size + k) ((a.size : Int) + y), f, s') by rw [dm1, hP.out]; simp only [HX.out, HY.out]; rw [if_neg cx, if_neg cy])
          clear hP
          go_wp2
          go_roundw
          case rel => exact ⟨k + 1, _, _, _, gf, cf, gs, cs, by omega, by go_num, rfl, rfl, HN, KZ.out, KD.out, K9.out, K11.out, KF.out, KS.out, hfs, KB.out⟩
          case measure => simp [intOf] <;> omega
    · have hk2 : k = a.size := by omega
      subst hk2
      have hE : f.length = s'.length := by have := HE.out; rw [hP.out] at this; exact this
      have hL := Lib.hid (show dmS a.size o1 o2 = dm2 f s' ms f.length by unfold dmS; rw [hP.out])
      have hm1 := Lib.hid (fun j => dm2_len f s' ms hml.out j)
      obtain ⟨⟨fl, fb⟩, sl, sb⟩ := hbd.out
      have HF := Lib.hid fb
      have HS := Lib.hid sb
      have hDw := HDw.out
      have B1 := Lib.hid hD
      have B2 := Lib.hid hZ
      have B3 := Lib.hid hF
      have B4 := Lib.hid hS
      have B5 := Lib.hid hB
      clear hD hZ hF hS hB h9 h11 hbd HE hP fb sb
      go_wp2
      go_loopw [14] (fun i wx => ∃ k : Nat, k ≤ f.length ∧ i = .int .i64 k ∧ Own wx w.heap.size zcells 32 ∧ Own wx D (dcells a.size (dm2 f s' ms k)) 32 ∧ Ints wx w.heap.size gf cf (nl f) ∧ Ints wx w.heap.size gs cs (nl s') ∧ Below w.heap.size w wx) (fun i _ => (f.length - intOf i).toNat)
      case atStart => exact ⟨0, by omega, rfl, B2.out, B1.out, B3.out, B4.out, B5.out⟩
      case round =>
        clear B1 B2 B3 B4 B5
        obtain ⟨k, hk, rfl, hZ, hD, hF, hS, hB⟩ := hrel
        by_cases hlt2 : k < f.length
        · have hltJ : (k : Int) < (f.length : Int) := by omega
          have hltS : (k : Int) < (s'.length : Int) := by omega
          have hltN : k < s'.length := by omega
          obtain ⟨p, hp⟩ : ∃ p, f.getD k 0 = p := ⟨_, rfl⟩
          obtain ⟨q, hq⟩ : ∃ q, s'.getD k 0 = q := ⟨_, rfl⟩
          have p8 : p < 16 := by have := getD_bd HF.out k hlt2; omega
          have q8 : q < 16 := by have := getD_bd HS.out k hltN; omega
          have c1 : wr.cell? ⟨gf, k, none⟩ = some (.int .i64 (p : Int)) := by rw [hF.cell k (by rw [nl_len]; exact hlt2), nl_get f k hlt2, hp]
          have c2 : wr.cell? ⟨gs, k, none⟩ = some (.int .i64 (q : Int)) := by rw [hS.cell k (by rw [nl_len]; exact hltN), nl_get s' k hltN, hq]
          have ml := hm1.out k
          have hst := Lib.hid (show dm2 f s' ms (k + 1) = ((dm2 f s' ms k).set p (q : Int)).set q (p : Int) by rw [dm2, hp, hq])
          obtain ⟨M, hM⟩ : ∃ M, dm2 f s' ms k = M := ⟨_, rfl⟩
          rw [hM] at hD ml hst
          have eF : D ≠ gf := hF.neD hD
          have eS : D ≠ gs := hS.neD hD
          have d1 : wr.cell? ⟨D, 1 + p, none⟩ = some (.int .u8 (M.getD p 0)) := by rw [hD.cell, dcells_get _ _ _ (by omega)]
          have d2 : wr.cell? ⟨D, 1 + q, none⟩ = some (.int .u8 (M.getD q 0)) := by rw [hD.cell, dcells_get _ _ _ (by omega)]
          have D1 := hD.set (1 + p) (.int .u8 (q : Int))
          rw [dcells_set] at D1
          have d3 : (wr.setCell ⟨D, 1 + p, none⟩ (.int .u8 (q : Int))).cell? ⟨D, 1 + q, none⟩ = some (.int .u8 ((M.set p (q : Int)).getD q 0)) := by rw [D1.cell, dcells_get _ _ _ (by rw [List.length_set]; omega)]
          have f1 := hD.free (1 + p)
          have f2 := hD.free (1 + q)
          have f3 := D1.free (1 + q)
          have D2 := D1.set (1 + q) (.int .u8 (p : Int))
          rw [dcells_set, ← hst.out] at D2
          have N2 : Only D wr ((wr.setCell ⟨D, 1 + p, none⟩ (.int .u8 (q : Int))).setCell ⟨D, 1 + q, none⟩ (.int .u8 (p : Int))) := (Only.set _ _ _ _).trans (Only.set _ _ _ _)
          have w1 : IntKind.u8.wrap (p : Int) = p := IntWalk.u8_in _ (by omega)
          have w2 : IntKind.u8.wrap (q : Int) = q := IntWalk.u8_in _ (by omega)
          have K1 := Lib.hid D2
          have K2 := Lib.hid (hZ.only N2 (by omega))
          have K3 := Lib.hid (hF.only N2 eF.symm)
          have K4 := Lib.hid (hS.only N2 eS.symm)
          have K5 := Lib.hid (hB.trans (N2.below.mono (by omega)))
          clear D1 D2 N2 hZ hD hF hS hB hp hq hst hM
          go_wp2
          go_region
          go_wp2
          go_region
          go_wp2
          go_roundw
          case rel => exact ⟨k + 1, by omega, by go_num, K2.out.drewN 2, K1.out.drewN 2, K3.out.drewN 2, K4.out.drewN 2, Below.drewN K5.out 2⟩
          case measure => simp [intOf] <;> omega
        · have hk3 : k = f.length := by omega
          subst hk3
          have hml2 := Lib.hid (hm1.out f.length)
          go_wp2_with (first
            | (refine wpList_load_row rfl 32 _ rfl _ rfl 32 _ (0, 0) _ (hD) Tryd.underlying32 rfl (row26 (d17 _ _ (hml2.out))) ?_)
            | (refine wpList_store_own rfl 32 _ _ rfl _ _ rfl rfl 32 _ (hZ) (row26 (d17 _ _ (hml2.out))) (dz _ _ hml2.out) (dcells_one _ _) ?_; intro w4 hO4 hN4))
          refine bodyPost_ret (v := .agg (dcells a.size (dm2 f s' ms f.length))) (results_cell_row rfl _ _ _ _ _ (0, 0) _ rfl (hO4) Tryd.underlying32 rfl (row26 (d17 _ _ (hml2.out)))) rfl (⟨by rw [hL.out], hB.trans (hN4.below.mono (Nat.le_refl _))⟩)
end Go.Proofs.YtopenojociafaaaDoor
