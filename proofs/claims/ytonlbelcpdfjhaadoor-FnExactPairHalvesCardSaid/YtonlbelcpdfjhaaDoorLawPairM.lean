/- Plain mathematics: a product of a diagram with that of a half diagram has no more open points above than the half diagram. The contract of the model's pairing of two half diagrams. PairHalves, the program's and the model's, by outcome; the contract of the program's pairing. The law of PairHalves. -/
import Derived.Test.YtonlbelcpdfjhaaDoorPlanM
import Derived.Test.YtonlbelcpdfjhaaDoorHvE
import Derived.Test.YtonlbelcpdfjhaaDoorCnt
import Derived.Test.YtonlbelcpdfjhaaDoorLawIsH
import Derived.Test.YtonlbelcpdfjhaaDoorPairM
import Derived.Test.YtonlbelcpdfjhaaDoorArcs
import Derived.Test.YtonlbelcpdfjhaaDoorMulI
import Derived.Test.YtonlbelcpdfjhaaDoorIsH
import Derived.Test.YtonlbelcpdfjhaaDoorOkPA
import Derived.Test.YtonlbelcpdfjhaaDoorOkPB
import Derived.Test.YtonlbelcpdfjhaaDoorOkPC
namespace Go.Proofs.YtonlbelcpdfjhaaDoor
open Go.RowKit
theorem inj_len (f : Nat → Nat) : ∀ (l1 l2 : List Nat), l1.Nodup → (∀ x ∈ l1, f x ∈ l2) → (∀ x ∈ l1, ∀ y ∈ l1, f x = f y → x = y) → l1.length ≤ l2.length
  | [], _, _, _, _ => Nat.zero_le _
  | x :: l1, l2, hn, hm, hi => by
    have hx := hm x (by simp)
    have hn' := List.nodup_cons.1 hn
    have h := inj_len f l1 (l2.erase (f x)) hn'.2 (fun y hy => (List.mem_erase_of_ne (fun e => hn'.1 (by
      have := hi x (by simp) y (by simp [hy]) e.symm
      rw [this]; exact hy))).2 (hm y (by simp [hy]))) (fun y hy z hz e => hi y (by simp [hy]) z (by simp [hz]) e)
    rw [List.length_erase_of_mem hx] at h
    have := List.length_pos_of_mem hx
    simp only [List.length_cons]; omega
/-- The points above whose lines go through. -/
def upo (N : Nat) (ms : List Int) (k : Nat) : List Nat := (List.range k).filter (fun j => decide ((N : Int) ≤ ms.getD j 0))
theorem cnt_hfL (N : Nat) (ms : List Int) (hb : Bytes ms) (k : Nat) : ((hfL N 0 ms k).map fun n => UInt8.ofNat n.toNat).count 124 = (upo N ms k).length := by
  induction k with
  | zero => rfl
  | succ k ih =>
    have e : (upo N ms (k + 1)).length = (upo N ms k).length + (if (N : Int) ≤ ms.getD k 0 then 1 else 0) := by
      unfold upo
      rw [List.range_succ, List.filter_append, List.length_append]
      congr 1
      simp only [List.filter_cons, List.filter_nil, decide_eq_true_eq]
      split <;> rfl
    rw [e, hfL, List.map_append, List.count_append, ih]
    congr 1
    have hm := hb.get k
    have e0 : (0 : Int).toNat + k = k := by simp
    rw [e0]
    unfold hch
    by_cases c : (N : Int) ≤ ms.getD k 0
    · rw [if_pos c, if_pos (.inr (by omega))]; rfl
    · rw [if_neg c, if_neg (by omega)]
      split <;> rfl
theorem cnt_half (N : Nat) (ms : List Int) (hb : Bytes ms) : cnt (halfB N 0 ms).data.toList = (upo N ms N).length := by
  unfold cnt
  rw [← cnt_hfL N ms hb N]
  rfl
theorem fol_low {n : Int} {d e : Int → Int} (hd : Mt n d) (he : Mt n e) (h1 : 1 ≤ n) (h8 : n ≤ 8) {p : Int} (h0 : n ≤ p) (h2 : p < 2 * n) (h : eP n d e p < n) : e p < n := by
  have hf := fol_p hd he h1 h8 (p := p) (by omega) h2
  rw [show decide (p < n) = false by simp; omega] at hf
  obtain ⟨f', _, ⟨a, b, _⟩ | ⟨a, _⟩⟩ := fol_f hf
  · omega
  · exact a
theorem upo_le (N : Nat) (ms es : List Int) (h1 : 1 ≤ N) (h8 : N ≤ 8) (hbd : Bytes ms) (hbe : Bytes es) (hd : IsS N ms) (he : IsS N es) :
    (upo N (prodL N (mate ms) (mate es)) N).length ≤ (upo N es N).length := by
  have md := mt_of hbd hd
  have me := mt_of hbe he
  have mp : Mt N (mate (prodL N (mate ms) (mate es))) := mt_of (prod_bytes md me (by omega) (by omega)) (prod_isS md me (nc_of hbd hd) (nc_of hbe he) (by omega) (by omega))
  obtain ⟨pr, hpr⟩ : ∃ pr, prodL N (mate ms) (mate es) = pr := ⟨_, rfl⟩
  rw [hpr] at mp ⊢
  have key : ∀ x ∈ upo N pr N, x < N ∧ (N : Int) ≤ mate pr x ∧ mate pr x < 2 * N ∧ mate pr (mate pr x) = x ∧ mate es (mate pr x) < N ∧ 0 ≤ mate es (mate pr x) ∧ mate es (mate es (mate pr x)) = mate pr x := by
    intro x hx
    unfold upo at hx
    rw [List.mem_filter, List.mem_range, decide_eq_true_eq] at hx
    obtain ⟨x1, x2⟩ := hx
    have e0 : mate pr x = pr.getD x 0 := by unfold mate; simp
    rw [← e0] at x2
    have lt := mp.lt x (by omega) (by omega)
    have iv := mp.inv x (by omega) (by omega)
    have e2 : eP N (mate ms) (mate es) (mate pr x) = x := by
      have := prod_mate (n := (N : Int)) (d := mate ms) (e := mate es) (by omega) (p := mate pr x) lt.1 lt.2
      rw [hpr, iv] at this; exact this.symm
    have lo := fol_low md me (by omega) (by omega) x2 lt.2 (by rw [e2]; omega)
    have l2 := me.lt (mate pr x) lt.1 lt.2
    exact ⟨x1, x2, lt.2, iv, lo, l2.1, me.inv _ lt.1 lt.2⟩
  refine inj_len (fun x => (mate es (mate pr x)).toNat) _ _ (List.Pairwise.sublist List.filter_sublist List.nodup_range) (fun x hx => ?_) (fun x hx y hy e => ?_)
  · obtain ⟨x1, x2, x3, x4, x5, x6, x7⟩ := key x hx
    unfold upo
    rw [List.mem_filter, List.mem_range, decide_eq_true_eq]
    refine ⟨by omega, ?_⟩
    have : mate es (mate es (mate pr x)) = es.getD (mate es (mate pr x)).toNat 0 := rfl
    omega
  · obtain ⟨x1, x2, x3, x4, x5, x6, x7⟩ := key x hx
    obtain ⟨y1, y2, y3, y4, y5, y6, y7⟩ := key y hy
    have e' : (mate es (mate pr x)).toNat = (mate es (mate pr y)).toNat := e
    have e1 : mate es (mate pr x) = mate es (mate pr y) := by omega
    have e2 : mate pr x = mate pr y := by rw [← x7, ← y7, e1]
    have e3 : (x : Int) = y := by rw [← x4, ← y4, e2]
    omega
/-- A product of two diagrams, as a diagram. -/
theorem prodD2 (n : Int) (ds es : List Int) (hbd : Bytes ds) (hbe : Bytes es) (hd : IsS n ds) (he : IsS n es) : Bytes (prodL n (mate ds) (mate es)) ∧ IsS n (prodL n (mate ds) (mate es)) :=
  ⟨prod_bytes (mt_of hbd hd) (mt_of hbe he) hd.1.1 hd.1.2, prod_isS (mt_of hbd hd) (mt_of hbe he) (nc_of hbd hd) (nc_of hbe he) hd.1.1 hd.1.2⟩
/-- The diagram of a half diagram with itself: what it is, and its upper half. -/
theorem self_hd {a : List UInt8} {o : List Int} (h : arcO a = some o) : ∃ es : List Int, dmS a.length o o = es ∧ parse (tohL a a) = some ((a.length : Int), es) ∧ Bytes es ∧ IsS a.length es ∧ es.length = 16 ∧ (dm1 a.length o o a.length).2.1.length = (dm1 a.length o o a.length).2.2.length ∧ cnt a = (upo a.length es a.length).length := by
  obtain ⟨g1, g2⟩ := okD_all h h rfl rfl
  have hb := (parse_bytes _ _ _ g2).1
  refine ⟨_, rfl, g2, hb, parse_isS _ _ _ g2, dmS_len _ _ _, g1, ?_⟩
  have hi : ihB a = true := by rw [ihB_eq, h]; rfl
  unfold ihB at hi
  rw [g2] at hi
  simp only [Int.toNat_natCast, decide_eq_true_eq] at hi
  rw [← cnt_half _ _ hb]
  unfold halfB
  rw [Int.toNat_natCast, hi, LI_str]
end Go.Proofs.YtonlbelcpdfjhaaDoor
namespace Go.Proofs.YtonlbelcpdfjhaaDoor
open Go.RowKit
theorem rowb {c : Array Value} (h : c.size = 8) : (Tryd.prog.info? 132).map (·.size) = some c.size := by
  rw [h]; kernel_rfl
theorem one8b (m : List Bool) : (bcells m).all (·.oneCell') = true := by simp [bcells, Value.oneCell']
theorem b8s (m : List Bool) (h : m.length = 8) : (bcells m).size = 8 := by simp [bcells, h]
theorem f8l : f8.length = 8 := rfl
theorem builtb : Tryd.prog.built 132 [] = some (bcells f8) := by kernel_rfl
theorem ne_own {w : World} {b b' : Nat} {cs cs' : Array Value} {t t' : TypeId} (h : Own w b cs t) (h' : Own w b' cs' t') (ht : t ≠ t') : b ≠ b' := by
  intro e
  subst e
  have : some (Obj.cells cs t (0, 0)) = some (Obj.cells cs' t' (0, 0)) := (show w.heap[b]? = _ from h).symm.trans h'
  simp at this
  exact ht this.2
set_option maxRecDepth 100000 in
set_option maxHeartbeats 4000000 in
theorem pairS_any (a b : ByteArray) (hb : b.size = a.size) (o1 o2 : List Int) (h1 : arcO a.data.toList = some o1) (h2 : arcO b.data.toList = some o2) (A2 B2 : List Int) (mt2 : List Bool) (gd2 : Bool) (hps : psd a.size o1 o2 2 = some (A2, B2, mt2, gd2)) (mL : List Bool) (L : Nat) (hpl : pl2 A2 B2 mt2 a.size = some (mL, L)) (w : World) :
    Calls Tryd.prog 81 #[.string a, .string b] w fun e w' => e = .returned (.tuple #[.bool gd2, .int .i64 (L : Int)]) ∧ Below w.heap.size w w' := by
  obtain ⟨O1, n1, n8⟩ := arc_O8 h1
  obtain ⟨O2, _, _⟩ := arc_O8 h2
  rw [Array.length_toList] at n1 n8
  have n1 : 1 ≤ a.size := n1
  have n8 : a.size ≤ 8 := n8
  have hA := Lib.hid (fun w => (arcs_any a w (by omega)).mono fun e w' (h : ArcPost _ w e w') => show e = .returned (.tuple #[.agg (icells o1), .bool true]) ∧ Below w.heap.size w w' from by
    obtain ⟨o, c, _, rfl, hy, hn, hB⟩ := h
    cases c with
    | true => have := hy rfl; rw [h1] at this; cases this; exact ⟨rfl, hB⟩
    | false => have := hn rfl; rw [h1] at this; cases this)
  have hC := Lib.hid (fun w => (arcs_any b w (by omega)).mono fun e w' (h : ArcPost _ w e w') => show e = .returned (.tuple #[.agg (icells o2), .bool true]) ∧ Below w.heap.size w w' from by
    obtain ⟨o, c, _, rfl, hy, hn, hB⟩ := h
    cases c with
    | true => have := hy rfl; rw [h2] at this; cases this; exact ⟨rfl, hB⟩
    | false => have := hn rfl; rw [h2] at this; cases this)
  have O1 := Lib.hid O1
  have O2 := Lib.hid O2
  have HP := Lib.hid hps
  have HL := Lib.hid hpl
  clear h1 h2 hps hpl
  go_enter Tryd.func81, Tryd.ntmps81
  go_wp2_with (first
    | (refine wpList_build_of rfl 132 #[] rfl (bcells f8) ?_ ?_; (exact builtb))
    | (go_at_call 112; ((with_reducible refine (hC.out _).mono ?_); rintro e w3 ⟨rfl, hB3⟩))
    | (go_at_call 112; ((with_reducible refine (hA.out _).mono ?_); rintro e w1 ⟨rfl, hB1⟩))
    | (refine wpList_store_own rfl 132 _ _ rfl _ _ rfl rfl 132 _ (Own.new w4 _ _) (rowb (b8s f8 f8l)) rfl (one8b _) ?_; intro w5 hO5 hN5)
    | (refine wpList_store_own rfl 119 _ _ rfl _ _ rfl rfl 119 _ (Own.new w3 _ _) (row8i (i8s _ (O2.out.1))) (i88 z8l O2.out.1) (one8i _) ?_; intro w4 hO4 hN4)
    | (refine wpList_store_own rfl 119 _ _ rfl _ _ rfl rfl 119 _ (Own.new w1 _ _) (row8i (i8s _ (O1.out.1))) (i88 z8l O1.out.1) (one8i _) ?_; intro w2 hO2 hN2))
  have s1 := hB1.size
  have s2 : w2.heap.size = w1.heap.size + 1 := by rw [hN2.size]; simp
  have s3 := hB3.size
  have s4 : w4.heap.size = w3.heap.size + 1 := by rw [hN4.size]; simp
  have q8 : Own w5 w3.heap.size (icells o2) 119 := (hO4.alloc _).only hN5 (by omega)
  have q6 : Own w5 w1.heap.size (icells o1) 119 := ((((hO2.below hB3 (by omega)).alloc _).only hN4 (by omega)).alloc _).only hN5 (by omega)
  have qB : Below w.heap.size w w5 := by
    have x2 := (hB1.alloc hB1.size _).trans (hN2.below.mono hB1.size)
    have x3 := x2.trans (hB3.mono (by omega))
    have x4 := (x3.alloc (by omega) _).trans (hN4.below.mono (by omega))
    exact (x4.alloc (by omega) _).trans (hN5.below.mono (by omega))
  obtain ⟨g6, e6⟩ : ∃ g, w1.heap.size = g := ⟨_, rfl⟩
  obtain ⟨g8, e8⟩ : ∃ g, w3.heap.size = g := ⟨_, rfl⟩
  obtain ⟨g10, e10⟩ : ∃ g, w4.heap.size = g := ⟨_, rfl⟩
  have n68 : g6 ≠ g8 := by omega
  have b6 : w.heap.size ≤ g6 := by omega
  have b8 : w.heap.size ≤ g8 := by omega
  have b10 : w.heap.size ≤ g10 := by omega
  rw [e6] at q6
  rw [e8] at q8
  rw [e10] at hO5
  rw [e6, e8, e10]
  have A1 := Lib.hid q6
  have A2' := Lib.hid q8
  have A3 := Lib.hid hO5
  have A4 := Lib.hid qB
  clear q6 q8 hO5 qB hB1 hB3 hN2 hN4 hN5 hO2 hO4 s1 s2 s3 s4 e6 e8 e10 hA hC
  go_loopw [11, 13] (fun g s wx => ∃ (j : Nat) (A B : List Int) (mt : List Bool) (gd : Bool), j ≤ 2 ∧ s = .int .i64 j ∧ g = .bool gd ∧ Hid (psd a.size o1 o2 j = some (A, B, mt, gd)) ∧ Hid (O8 A ∧ O8 B ∧ mt.length = 8) ∧ Own wx g6 (icells A) 119 ∧ Own wx g8 (icells B) 119 ∧ Own wx g10 (bcells mt) 132 ∧ Below w.heap.size w wx) (fun _ s _ => (2 - intOf s).toNat)
  case atStart => exact ⟨0, o1, o2, f8, true, by omega, rfl, rfl, Lib.hid rfl, Lib.hid ⟨O1.out, O2.out, rfl⟩, A1.out, A2'.out, A3.out, A4.out⟩
  case round =>
    clear A1 A2' A3 A4
    obtain ⟨j, A, B, mt, gd, hj, rfl, rfl, hP, hO, h6, h8, h10, hB⟩ := hrel
    obtain ⟨OA, OB, hml⟩ := hO.out
    have OA := Lib.hid OA
    have OB := Lib.hid OB
    have hml := Lib.hid hml
    have n610 : g6 ≠ g10 := ne_own h6 h10 (by decide)
    have n810 : g8 ≠ g10 := ne_own h8 h10 (by decide)
    have n106 : g10 ≠ g6 := n610.symm
    have n108 : g10 ≠ g8 := n810.symm
    by_cases hlt : j < 2
    · have hltI : (j : Int) < 2 := by omega
      obtain ⟨m', g', hpi, hpn⟩ := psd_def HP.out j hlt hP.out
      have HI := Lib.hid hpi
      have HN := Lib.hid hpn
      have A1 := Lib.hid h6
      have A2' := Lib.hid h8
      have A3 := Lib.hid h10
      have A4 := Lib.hid hB
      clear hpi hpn h6 h8 h10 hB hP hO
      go_wp2
      go_loopw [11, 14] (fun g i wx => ∃ (k : Nat) (mt' : List Bool) (gd' : Bool), k ≤ a.size ∧ i = .int .i64 k ∧ g = .bool gd' ∧ Hid (pi A B (mt, gd) k = some (mt', gd')) ∧ Hid (mt'.length = 8) ∧ Own wx g6 (icells A) 119 ∧ Own wx g8 (icells B) 119 ∧ Own wx g10 (bcells mt') 132 ∧ Below w.heap.size w wx) (fun _ i _ => (a.size - intOf i).toNat)
      case atStart => exact ⟨0, mt, gd, by omega, rfl, rfl, Lib.hid rfl, hml, A1.out, A2'.out, A3.out, A4.out⟩
      case round =>
        clear A1 A2' A3 A4
        obtain ⟨k, mt', gd', hk, rfl, rfl, hPk, hm', h6, h8, h10, hB⟩ := hrel
        by_cases hkl : k < a.size
        · have hkI : (k : Int) < a.size := by omega
          have k8 : k < 8 := by omega
          have c10 : wr.cell? ⟨g10, k, none⟩ = some (.bool (mt'.getD k true)) := by rw [h10.cell, bcells_get _ _ (by rw [hm'.out]; omega)]
          have c6 : wr.cell? ⟨g6, k, none⟩ = some (.int .i64 (A.getD k 0)) := by rw [h6.cell, icells_get _ _ (by rw [OA.out.1]; omega)]
          by_cases cm : mt'.getD k true = true
          · have HS := Lib.hid (pi_skip hPk.out (.inl cm))
            rw [cm] at c10
            go_wp2
            go_roundw
            case rel => exact ⟨k + 1, mt', gd', by omega, by go_num, rfl, HS, hm', h6, h8, h10, hB⟩
            case measure => simp [intOf] <;> omega
          · have cm' : mt'.getD k true = false := by simpa using cm
            by_cases cx : A.getD k 0 = (k : Int)
            · have hnc : ¬ (mt'.getD k true = true ∨ A.getD k 0 ≠ (k : Int)) := by
                rintro (h | h)
                · exact cm h
                · exact h cx
              obtain ⟨mE, gE, hpw⟩ := pi_pw HI.out hkl hPk.out hnc
              have HG := Lib.hid (pi_go hPk.out hnc hpw)
              clear hnc
              rw [cm'] at c10
              rw [cx] at c6
              have A1 := Lib.hid h6
              have A2' := Lib.hid h8
              have A3 := Lib.hid h10
              have A4 := Lib.hid hB
              have HW := Lib.hid hpw
              clear h6 h8 h10 hB hpw hPk cm cm' cx
              go_wp2
              clear c10 c6
              go_loopg [11, 15, 16] 9 (fun f gg at' up wx => ∃ (q : Nat) (u : Bool) (m2 : List Bool), gg = .bool gd' ∧ at' = .int .i64 q ∧ up = .bool u ∧ q < 8 ∧ Hid (m2.length = 8) ∧ Hid (pw A B f q u m2 = some (mE, gE)) ∧ Own wx g6 (icells A) 119 ∧ Own wx g8 (icells B) 119 ∧ Own wx g10 (bcells m2) 132 ∧ Below w.heap.size w wx)
              case atStart => exact ⟨k, false, mt', rfl, rfl, rfl, k8, hm', HW, A1.out, A2'.out, A3.out, A4.out⟩
              case round =>
                clear A1 A2' A3 A4 HW
                obtain ⟨q, u, m2, rfl, rfl, rfl, q8, hm2, hW, h6, h8, h10, hB⟩ := hrel
                obtain ⟨f', hff⟩ := pw_pos hW.out
                subst hff
                obtain ⟨p, hpA, p8⟩ := nat_of OA.out q
                obtain ⟨r, hrB, r8⟩ := nat_of OB.out q
                have m1 : wr.cell? ⟨g10, q, none⟩ = some (.bool (m2.getD q true)) := by rw [h10.cell, bcells_get _ _ (by rw [hm2.out]; omega)]
                have f1 := h10.free q
                have a6 : wr.cell? ⟨g6, q, none⟩ = some (.int .i64 (p : Int)) := by rw [h6.cell, icells_get _ _ (by rw [OA.out.1]; omega), hpA]
                have a8 : wr.cell? ⟨g8, q, none⟩ = some (.int .i64 (r : Int)) := by rw [h8.cell, icells_get _ _ (by rw [OB.out.1]; omega), hrB]
                have D1 := h10.set q (.bool true)
                rw [bcells_set] at D1
                have N1 : Only g10 wr (wr.setCell ⟨g10, q, none⟩ (.bool true)) := Only.set _ _ _ _
                have K6 := Lib.hid (h6.only N1 n610)
                have K8 := Lib.hid (h8.only N1 n810)
                have KB := Lib.hid (hB.trans (N1.below.mono b10))
                have hpA := Lib.hid hpA
                have hrB := Lib.hid hrB
                clear N1
                cases u with
                | true =>
                  by_cases c : p = q
                  · have bx : ((p : Int) == (p : Int)) = true := by simp
                    obtain ⟨eM, eG⟩ := pw_exit hW.out (show nx A B true q = (q : Int) by unfold nx; simp only [if_true]; rw [hpA.out, c])
                    subst c
                    have HS := Lib.hid (show pi A B (mt, gd) (k + 1) = some (mE, gd' && gE) from HG.out)
                    have K10 := Lib.hid (show Own (wr.setCell ⟨g10, p, none⟩ (.bool true)) g10 (bcells mE) 132 by rw [eM]; exact D1)
                    have KM := Lib.hid (show mE.length = 8 by rw [eM, List.length_set]; exact hm2.out)
                    have eG' : gE = false := eG
                    clear eM D1 hW HG eG
                    subst eG'
                    cases gd'
                    all_goals (
                      go_wp2
                      go_roundw
                      case rel => exact ⟨k + 1, mE, _, by omega, by go_num, rfl, HS, KM, K6.out, K8.out, K10.out, KB.out⟩
                      case measure => simp [intOf] <;> omega)
                  · have hW2 := Lib.hid (pw_next hW.out (show nx A B true q = (p : Int) by unfold nx; simp only [if_true]; exact hpA.out) c)
                    have bx : ((p : Int) == (q : Int)) = false := by simp; omega
                    have d2 : (wr.setCell ⟨g10, q, none⟩ (.bool true)).cell? ⟨g10, p, none⟩ = some (.bool ((m2.set q true).getD p true)) := by rw [D1.cell, bcells_get _ _ (by rw [List.length_set, hm2.out]; omega)]
                    have d3 : wr.cell? ⟨g10, p, none⟩ = some (.bool (m2.getD p true)) := by rw [h10.cell, bcells_get _ _ (by rw [hm2.out]; omega)]
                    have f2 := D1.free p
                    have f3 := h10.free p
                    have D2 := D1.set p (.bool true)
                    rw [bcells_set] at D2
                    have N2 : Only g10 wr ((wr.setCell ⟨g10, q, none⟩ (.bool true)).setCell ⟨g10, p, none⟩ (.bool true)) := (Only.set _ _ _ _).trans (Only.set _ _ _ _)
                    have J10 := Lib.hid D2
                    have J6 := Lib.hid (h6.only N2 n610)
                    have J8 := Lib.hid (h8.only N2 n810)
                    have JB := Lib.hid (hB.trans (N2.below.mono b10))
                    have JM := Lib.hid (show ((m2.set q true).set p true).length = 8 by simp [hm2.out])
                    clear D1 D2 N2 h6 h8 h10 hB hW K6 K8 KB
                    go_wp2
                    go_roundg f'
                    case measure => omega
                    case rel => exact ⟨p, false, _, rfl, rfl, rfl, by omega, JM, hW2, J6.out, J8.out, J10.out, JB.out⟩
                | false =>
                  by_cases c : r = q
                  · have bx : ((r : Int) == (r : Int)) = true := by simp
                    obtain ⟨eM, eG⟩ := pw_exit hW.out (show nx A B false q = (q : Int) by unfold nx; simp only [Bool.false_eq_true, if_false]; rw [hrB.out, c])
                    subst c
                    have HS := Lib.hid (show pi A B (mt, gd) (k + 1) = some (mE, gd' && gE) from HG.out)
                    have K10 := Lib.hid (show Own (wr.setCell ⟨g10, r, none⟩ (.bool true)) g10 (bcells mE) 132 by rw [eM]; exact D1)
                    have KM := Lib.hid (show mE.length = 8 by rw [eM, List.length_set]; exact hm2.out)
                    have eG' : gE = true := eG
                    clear eM D1 hW HG eG
                    subst eG'
                    cases gd'
                    all_goals (
                      go_wp2
                      go_roundw
                      case rel => exact ⟨k + 1, mE, _, by omega, by go_num, rfl, HS, KM, K6.out, K8.out, K10.out, KB.out⟩
                      case measure => simp [intOf] <;> omega)
                  · have hW2 := Lib.hid (pw_next hW.out (show nx A B false q = (r : Int) by unfold nx; simp only [Bool.false_eq_true, if_false]; exact hrB.out) c)
                    have bx : ((r : Int) == (q : Int)) = false := by simp; omega
                    have d2 : (wr.setCell ⟨g10, q, none⟩ (.bool true)).cell? ⟨g10, r, none⟩ = some (.bool ((m2.set q true).getD r true)) := by rw [D1.cell, bcells_get _ _ (by rw [List.length_set, hm2.out]; omega)]
                    have d3 : wr.cell? ⟨g10, r, none⟩ = some (.bool (m2.getD r true)) := by rw [h10.cell, bcells_get _ _ (by rw [hm2.out]; omega)]
                    have f2 := D1.free r
                    have f3 := h10.free r
                    have D2 := D1.set r (.bool true)
                    rw [bcells_set] at D2
                    have N2 : Only g10 wr ((wr.setCell ⟨g10, q, none⟩ (.bool true)).setCell ⟨g10, r, none⟩ (.bool true)) := (Only.set _ _ _ _).trans (Only.set _ _ _ _)
                    have J10 := Lib.hid D2
                    have J6 := Lib.hid (h6.only N2 n610)
                    have J8 := Lib.hid (h8.only N2 n810)
                    have JB := Lib.hid (hB.trans (N2.below.mono b10))
                    have JM := Lib.hid (show ((m2.set q true).set r true).length = 8 by simp [hm2.out])
                    clear D1 D2 N2 h6 h8 h10 hB hW K6 K8 KB
                    go_wp2
                    go_roundg f'
                    case measure => omega
                    case rel => exact ⟨r, true, _, rfl, rfl, rfl, by omega, JM, hW2, J6.out, J8.out, J10.out, JB.out⟩
            · have HS := Lib.hid (pi_skip hPk.out (.inr cx))
              have bx : (A.getD k 0 != (k : Int)) = true := by simpa using cx
              rw [cm'] at c10
              obtain ⟨x, hx⟩ : ∃ x, A.getD k 0 = x := ⟨_, rfl⟩
              rw [hx] at c6 bx cx
              clear hx
              go_wp2
              go_roundw
              case rel => exact ⟨k + 1, mt', gd', by omega, by go_num, rfl, HS, hm', h6, h8, h10, hB⟩
              case measure => simp [intOf] <;> omega
        · have hk2 : k = a.size := by omega
          subst hk2
          have e := hPk.out
          rw [HI.out] at e
          simp only [Option.some.injEq, Prod.mk.injEq] at e
          obtain ⟨rfl, rfl⟩ := e
          have l6 := h6.lt
          have l8 := h8.lt
          have l10 := h10.lt
          have i6 := Lib.hid (i8s A OA.out.1)
          have lA := Lib.hid OA.out.1
          have lB := Lib.hid OB.out.1
          have lz := Lib.hid z8l
          clear hPk HI
          go_wp2_with (first
            | (refine wpList_load_row rfl 119 _ rfl _ rfl 119 _ (0, 0) _ (hO1.only hN2 (Nat.ne_of_gt l6)) Tryd.underlying119 rfl (row8i (i8s _ (lA.out))) ?_)
            | (refine wpList_load_row rfl 119 _ rfl _ rfl 119 _ (0, 0) _ ((h8.alloc _).only hN1 (Nat.ne_of_lt l8)) Tryd.underlying119 rfl (row8i (i8s _ (lB.out))) ?_)
            | (refine wpList_load_row rfl 119 _ rfl _ rfl 119 _ (0, 0) _ (h6) Tryd.underlying119 rfl (row8i (i8s _ (lA.out))) ?_)
            | (refine wpList_store_own rfl 119 _ _ rfl _ _ rfl rfl 119 _ ((((h8.alloc _).only hN1 (Nat.ne_of_lt l8)).only hN2 n68.symm)) (row8i (i8s _ (lA.out))) (i88 lB.out lA.out) (one8i _) ?_; intro w8 hO3 hN3)
            | (refine wpList_store_own rfl 119 _ _ rfl _ _ rfl rfl 119 _ ((h6.alloc _).only hN1 (Nat.ne_of_lt l6)) (row8i (i8s _ (lB.out))) (i88 lA.out lB.out) (one8i _) ?_; intro w7 hO2 hN2)
            | (refine wpList_store_own rfl 119 _ _ rfl _ _ rfl rfl 119 _ (Own.new wr _ _) (row8i (i8s _ (lA.out))) (i88 z8l lA.out) (one8i _) ?_; intro w6 hO1 hN1))
          have N10 := (((h10.alloc (Obj.cells (icells z8) 119)).only hN1 (Nat.ne_of_lt l10)).only hN2 n106).only hN3 n108
          have B8 : Below w.heap.size w w8 := (((hB.alloc hB.size _).trans (hN1.below.mono hB.size)).trans (hN2.below.mono b6)).trans (hN3.below.mono b8)
          go_roundw
          case rel => exact ⟨j + 1, B, A, _, _, by omega, by go_num, rfl, HN, Lib.hid ⟨OB.out, OA.out, hm'.out⟩, hO2.only hN3 n68, hO3, N10, B8⟩
          case measure => simp [intOf] <;> omega
    · have hj2 : j = 2 := by omega
      subst hj2
      have e := hP.out
      rw [HP.out] at e
      simp only [Option.some.injEq, Prod.mk.injEq] at e
      obtain ⟨eA, eB, em, eg⟩ := e
      subst eA eB em eg
      clear hP HP hO hlt
      have X1 := Lib.hid h6
      have X2 := Lib.hid h8
      have X3 := Lib.hid h10
      have X4 := Lib.hid hB
      clear h6 h8 h10 hB
      go_wp2
      go_loopw [12, 19] (fun l i wx => ∃ (k : Nat) (m : List Bool) (ln : Nat), k ≤ a.size ∧ i = .int .i64 k ∧ l = .int .i64 (ln : Int) ∧ ln ≤ k ∧ Hid (pl2 A2 B2 mt2 k = some (m, ln)) ∧ Hid (m.length = 8) ∧ Own wx g6 (icells A2) 119 ∧ Own wx g8 (icells B2) 119 ∧ Own wx g10 (bcells m) 132 ∧ Below w.heap.size w wx) (fun _ i _ => (a.size - intOf i).toNat)
      case atStart => exact ⟨0, mt2, 0, by omega, rfl, rfl, by omega, Lib.hid rfl, hml, X1.out, X2.out, X3.out, X4.out⟩
      case round =>
        clear X1 X2 X3 X4
        obtain ⟨k, m, ln, hk, rfl, rfl, hln, hPk, hm, h6, h8, h10, hB⟩ := hrel
        by_cases hkl : k < a.size
        · have hkI : (k : Int) < a.size := by omega
          have k8 : k < 8 := by omega
          have c10 : wr.cell? ⟨g10, k, none⟩ = some (.bool (m.getD k true)) := by rw [h10.cell, bcells_get _ _ (by rw [hm.out]; omega)]
          by_cases cm : m.getD k true = true
          · have HS := Lib.hid (pl_skip hPk.out cm)
            rw [cm] at c10
            go_wp2
            go_roundw
            case rel => exact ⟨k + 1, m, ln, by omega, by go_num, rfl, by omega, HS, hm, h6, h8, h10, hB⟩
            case measure => simp [intOf] <;> omega
          · have cm' : m.getD k true = false := by simpa using cm
            obtain ⟨mE, hlw⟩ := pl_lw HL.out hkl hPk.out cm
            have HG := Lib.hid (pl_go hPk.out cm hlw)
            have HW := Lib.hid hlw
            rw [cm'] at c10
            have X1 := Lib.hid h6
            have X2 := Lib.hid h8
            have X3 := Lib.hid h10
            have X4 := Lib.hid hB
            clear h6 h8 h10 hB hlw hPk cm cm'
            go_wp2
            clear c10
            go_loopg [20] 9 (fun f at' wx => ∃ (q : Nat) (m2 : List Bool), at' = .int .i64 q ∧ q < 8 ∧ Hid (m2.length = 8) ∧ Hid (lw A2 B2 f q m2 = some mE) ∧ Own wx g6 (icells A2) 119 ∧ Own wx g8 (icells B2) 119 ∧ Own wx g10 (bcells m2) 132 ∧ Below w.heap.size w wx)
            case atStart => exact ⟨k, m, rfl, k8, hm, HW, X1.out, X2.out, X3.out, X4.out⟩
            case round =>
              clear X1 X2 X3 X4 HW
              obtain ⟨q, m2, rfl, q8, hm2, hW, h6, h8, h10, hB⟩ := hrel
              obtain ⟨f', hff⟩ := lw_pos hW.out
              subst hff
              have m1 : wr.cell? ⟨g10, q, none⟩ = some (.bool (m2.getD q true)) := by rw [h10.cell, bcells_get _ _ (by rw [hm2.out]; omega)]
              by_cases cq : m2.getD q true = true
              · have eM := lw_exit hW.out cq
                rw [cq] at m1
                have K10 := Lib.hid (show Own wr g10 (bcells mE) 132 by rw [eM]; exact h10)
                have KM := Lib.hid (show mE.length = 8 by rw [eM]; exact hm2.out)
                clear eM hW h10 hm2
                go_wp2
                go_roundw
                case rel => exact ⟨k + 1, mE, ln + 1, by omega, by go_num, by go_num, by omega, HG, KM, h6, h8, K10.out, hB⟩
                case measure => simp [intOf] <;> omega
              · have cq' : m2.getD q true = false := by simpa using cq
                obtain ⟨p, hpA, p8⟩ := nat_of OA.out q
                obtain ⟨r, hrB, r8⟩ := nat_of OB.out p
                have a6 : wr.cell? ⟨g6, q, none⟩ = some (.int .i64 (p : Int)) := by rw [h6.cell, icells_get _ _ (by rw [OA.out.1]; omega), hpA]
                have a8 : wr.cell? ⟨g8, p, none⟩ = some (.int .i64 (r : Int)) := by rw [h8.cell, icells_get _ _ (by rw [OB.out.1]; omega), hrB]
                have hW2 := Lib.hid (lw_next hW.out cq hpA hrB)
                rw [cq'] at m1
                have D1 := h10.set q (.bool true)
                rw [bcells_set] at D1
                have f1 := h10.free q
                have d2 : (wr.setCell ⟨g10, q, none⟩ (.bool true)).cell? ⟨g10, p, none⟩ = some (.bool ((m2.set q true).getD p true)) := by rw [D1.cell, bcells_get _ _ (by rw [List.length_set, hm2.out]; omega)]
                have d3 : wr.cell? ⟨g10, p, none⟩ = some (.bool (m2.getD p true)) := by rw [h10.cell, bcells_get _ _ (by rw [hm2.out]; omega)]
                have f2 := D1.free p
                have f3 := h10.free p
                have D2 := D1.set p (.bool true)
                rw [bcells_set] at D2
                have N2 : Only g10 wr ((wr.setCell ⟨g10, q, none⟩ (.bool true)).setCell ⟨g10, p, none⟩ (.bool true)) := (Only.set _ _ _ _).trans (Only.set _ _ _ _)
                have J10 := Lib.hid D2
                have J6 := Lib.hid (h6.only N2 n610)
                have J8 := Lib.hid (h8.only N2 n810)
                have JB := Lib.hid (hB.trans (N2.below.mono b10))
                have JM := Lib.hid (show ((m2.set q true).set p true).length = 8 by simp [hm2.out])
                clear D1 D2 N2 h6 h8 h10 hB hW cq cq' hpA hrB
                go_wp2
                go_roundg f'
                case measure => omega
                case rel => exact ⟨r, _, rfl, by omega, JM, hW2, J6.out, J8.out, J10.out, JB.out⟩
        · have hk2 : k = a.size := by omega
          subst hk2
          have e := hPk.out
          rw [HL.out] at e
          simp only [Option.some.injEq, Prod.mk.injEq] at e
          obtain ⟨e1, e2⟩ := e
          subst e2
          go_wp2
          go_ret2
          exact ⟨rfl, hB⟩
end Go.Proofs.YtonlbelcpdfjhaaDoor
namespace Go.Proofs.YtonlbelcpdfjhaaDoor
open Go.RowKit
set_option maxRecDepth 100000 in
set_option maxHeartbeats 1000000 in
theorem phI_bad1 (a b : ByteArray) (w : World)
    (hA : ∀ w1, Below w.heap.size w w1 → Calls Tryd.prog 12 #[.string a] w1 fun e w2 => e = .returned (.bool false) ∧ Below w1.heap.size w1 w2) :
    Calls Tryd.prog 30 #[.string a, .string b] w fun e w' => e = .returned (.tuple #[.bool false, .int .i64 0, .int .i64 1]) ∧ Below w.heap.size w w' := by
  have hA := Lib.hid hA
  go_enter Tryd.func30, Tryd.ntmps30
  go_wp2_with (first
    | (go_at_call 12; ((with_reducible refine (hA.out _ (Below.refl _ w)).mono ?_); rintro e w1 ⟨rfl, hB1⟩)))
  go_ret3
  exact ⟨rfl, hB1⟩
set_option maxRecDepth 100000 in
set_option maxHeartbeats 1000000 in
theorem phI_bad2 (a b : ByteArray) (w : World)
    (hA : ∀ w1, Below w.heap.size w w1 → Calls Tryd.prog 12 #[.string a] w1 fun e w2 => e = .returned (.bool true) ∧ Below w1.heap.size w1 w2)
    (hC : ∀ w1, Below w.heap.size w w1 → Calls Tryd.prog 12 #[.string b] w1 fun e w2 => e = .returned (.bool false) ∧ Below w1.heap.size w1 w2) :
    Calls Tryd.prog 30 #[.string a, .string b] w fun e w' => e = .returned (.tuple #[.bool false, .int .i64 0, .int .i64 1]) ∧ Below w.heap.size w w' := by
  have hA := Lib.hid hA
  have hC := Lib.hid hC
  go_enter Tryd.func30, Tryd.ntmps30
  go_wp2_with (first
    | (go_at_call 12; ((with_reducible refine (hC.out _ hB1).mono ?_); rintro e w2 ⟨rfl, hB2⟩; have hBy : Below w.heap.size w w2 := hB1.trans (hB2.mono hB1.size)))
    | (go_at_call 12; ((with_reducible refine (hA.out _ (Below.refl _ w)).mono ?_); rintro e w1 ⟨rfl, hB1⟩)))
  go_ret3
  exact ⟨rfl, hBy⟩
set_option maxRecDepth 100000 in
set_option maxHeartbeats 1000000 in
theorem phI_size (a b : ByteArray) (w : World)
    (hA : ∀ w1, Below w.heap.size w w1 → Calls Tryd.prog 12 #[.string a] w1 fun e w2 => e = .returned (.bool true) ∧ Below w1.heap.size w1 w2)
    (hC : ∀ w1, Below w.heap.size w w1 → Calls Tryd.prog 12 #[.string b] w1 fun e w2 => e = .returned (.bool true) ∧ Below w1.heap.size w1 w2)
    (hne : (a.size : Int) ≠ (b.size : Int)) :
    Calls Tryd.prog 30 #[.string a, .string b] w fun e w' => e = .returned (.tuple #[.bool false, .int .i64 0, .int .i64 2]) ∧ Below w.heap.size w w' := by
  have hA := Lib.hid hA
  have hC := Lib.hid hC
  go_enter Tryd.func30, Tryd.ntmps30
  go_wp2_with (first
    | (go_at_call 12; ((with_reducible refine (hC.out _ hB1).mono ?_); rintro e w2 ⟨rfl, hB2⟩; have hBy : Below w.heap.size w w2 := hB1.trans (hB2.mono hB1.size)))
    | (go_at_call 12; ((with_reducible refine (hA.out _ (Below.refl _ w)).mono ?_); rintro e w1 ⟨rfl, hB1⟩)))
  go_ret3
  exact ⟨rfl, hBy⟩
set_option maxRecDepth 100000 in
set_option maxHeartbeats 1000000 in
theorem phI_ok (a b : ByteArray) (w : World)
    (hA : ∀ w1, Below w.heap.size w w1 → Calls Tryd.prog 12 #[.string a] w1 fun e w2 => e = .returned (.bool true) ∧ Below w1.heap.size w1 w2)
    (hC : ∀ w1, Below w.heap.size w w1 → Calls Tryd.prog 12 #[.string b] w1 fun e w2 => e = .returned (.bool true) ∧ Below w1.heap.size w1 w2)
    (hne : (a.size : Int) = (b.size : Int)) (gd : Bool) (lp : Int)
    (hT : ∀ w1, Below w.heap.size w w1 → Calls Tryd.prog 80 #[.string a, .string b] w1 fun e w2 => e = .returned (.tuple #[.bool gd, .int .i64 lp]) ∧ Below w1.heap.size w1 w2) :
    Calls Tryd.prog 30 #[.string a, .string b] w fun e w' => e = .returned (.tuple #[.bool gd, .int .i64 lp, .int .i64 0]) ∧ Below w.heap.size w w' := by
  have hA := Lib.hid hA
  have hC := Lib.hid hC
  have hT := Lib.hid hT
  go_enter Tryd.func30, Tryd.ntmps30
  go_wp2_with (first
    | (go_at_call 12; ((with_reducible refine (hC.out _ hB1).mono ?_); rintro e w2 ⟨rfl, hB2⟩; have hBy : Below w.heap.size w w2 := hB1.trans (hB2.mono hB1.size)))
    | (go_at_call 12; ((with_reducible refine (hA.out _ (Below.refl _ w)).mono ?_); rintro e w1 ⟨rfl, hB1⟩))
    | (go_at_call 80; ((with_reducible refine (hT.out _ hBy).mono ?_); rintro e w4 ⟨rfl, hB4⟩)))
  go_ret3
  exact ⟨rfl, hBy.trans (hB4.mono hBy.size)⟩
set_option maxRecDepth 100000 in
set_option maxHeartbeats 1000000 in
theorem phS_bad1 (a b : ByteArray) (w : World)
    (hA : ∀ w1, Below w.heap.size w w1 → Calls Tryd.prog 61 #[.string a] w1 fun e w2 => e = .returned (.bool false) ∧ Below w1.heap.size w1 w2) :
    Calls Tryd.prog 31 #[.string a, .string b] w fun e w' => e = .returned (.tuple #[.bool false, .int .i64 0, .int .i64 1]) ∧ Below w.heap.size w w' := by
  have hA := Lib.hid hA
  go_enter Tryd.func31, Tryd.ntmps31
  go_wp2_with (first
    | (go_at_call 61; ((with_reducible refine (hA.out _ (Below.refl _ w)).mono ?_); rintro e w1 ⟨rfl, hB1⟩)))
  go_ret3
  exact ⟨rfl, hB1⟩
set_option maxRecDepth 100000 in
set_option maxHeartbeats 1000000 in
theorem phS_bad2 (a b : ByteArray) (w : World)
    (hA : ∀ w1, Below w.heap.size w w1 → Calls Tryd.prog 61 #[.string a] w1 fun e w2 => e = .returned (.bool true) ∧ Below w1.heap.size w1 w2)
    (hC : ∀ w1, Below w.heap.size w w1 → Calls Tryd.prog 61 #[.string b] w1 fun e w2 => e = .returned (.bool false) ∧ Below w1.heap.size w1 w2) :
    Calls Tryd.prog 31 #[.string a, .string b] w fun e w' => e = .returned (.tuple #[.bool false, .int .i64 0, .int .i64 1]) ∧ Below w.heap.size w w' := by
  have hA := Lib.hid hA
  have hC := Lib.hid hC
  go_enter Tryd.func31, Tryd.ntmps31
  go_wp2_with (first
    | (go_at_call 61; ((with_reducible refine (hC.out _ hB1).mono ?_); rintro e w2 ⟨rfl, hB2⟩; have hBy : Below w.heap.size w w2 := hB1.trans (hB2.mono hB1.size)))
    | (go_at_call 61; ((with_reducible refine (hA.out _ (Below.refl _ w)).mono ?_); rintro e w1 ⟨rfl, hB1⟩)))
  go_ret3
  exact ⟨rfl, hBy⟩
set_option maxRecDepth 100000 in
set_option maxHeartbeats 1000000 in
theorem phS_size (a b : ByteArray) (w : World)
    (hA : ∀ w1, Below w.heap.size w w1 → Calls Tryd.prog 61 #[.string a] w1 fun e w2 => e = .returned (.bool true) ∧ Below w1.heap.size w1 w2)
    (hC : ∀ w1, Below w.heap.size w w1 → Calls Tryd.prog 61 #[.string b] w1 fun e w2 => e = .returned (.bool true) ∧ Below w1.heap.size w1 w2)
    (hne : (a.size : Int) ≠ (b.size : Int)) :
    Calls Tryd.prog 31 #[.string a, .string b] w fun e w' => e = .returned (.tuple #[.bool false, .int .i64 0, .int .i64 2]) ∧ Below w.heap.size w w' := by
  have hA := Lib.hid hA
  have hC := Lib.hid hC
  go_enter Tryd.func31, Tryd.ntmps31
  go_wp2_with (first
    | (go_at_call 61; ((with_reducible refine (hC.out _ hB1).mono ?_); rintro e w2 ⟨rfl, hB2⟩; have hBy : Below w.heap.size w w2 := hB1.trans (hB2.mono hB1.size)))
    | (go_at_call 61; ((with_reducible refine (hA.out _ (Below.refl _ w)).mono ?_); rintro e w1 ⟨rfl, hB1⟩)))
  go_ret3
  exact ⟨rfl, hBy⟩
set_option maxRecDepth 100000 in
set_option maxHeartbeats 1000000 in
theorem phS_ok (a b : ByteArray) (w : World)
    (hA : ∀ w1, Below w.heap.size w w1 → Calls Tryd.prog 61 #[.string a] w1 fun e w2 => e = .returned (.bool true) ∧ Below w1.heap.size w1 w2)
    (hC : ∀ w1, Below w.heap.size w w1 → Calls Tryd.prog 61 #[.string b] w1 fun e w2 => e = .returned (.bool true) ∧ Below w1.heap.size w1 w2)
    (hne : (a.size : Int) = (b.size : Int)) (gd : Bool) (lp : Int)
    (hT : ∀ w1, Below w.heap.size w w1 → Calls Tryd.prog 81 #[.string a, .string b] w1 fun e w2 => e = .returned (.tuple #[.bool gd, .int .i64 lp]) ∧ Below w1.heap.size w1 w2) :
    Calls Tryd.prog 31 #[.string a, .string b] w fun e w' => e = .returned (.tuple #[.bool gd, .int .i64 lp, .int .i64 0]) ∧ Below w.heap.size w w' := by
  have hA := Lib.hid hA
  have hC := Lib.hid hC
  have hT := Lib.hid hT
  go_enter Tryd.func31, Tryd.ntmps31
  go_wp2_with (first
    | (go_at_call 61; ((with_reducible refine (hC.out _ hB1).mono ?_); rintro e w2 ⟨rfl, hB2⟩; have hBy : Below w.heap.size w w2 := hB1.trans (hB2.mono hB1.size)))
    | (go_at_call 61; ((with_reducible refine (hA.out _ (Below.refl _ w)).mono ?_); rintro e w1 ⟨rfl, hB1⟩))
    | (go_at_call 81; ((with_reducible refine (hT.out _ hBy).mono ?_); rintro e w4 ⟨rfl, hB4⟩)))
  go_ret3
  exact ⟨rfl, hBy.trans (hB4.mono hBy.size)⟩
set_option maxRecDepth 100000 in
set_option maxHeartbeats 1000000 in
theorem pairI_tt (a b h : ByteArray) (n : Int) (es1 es2 rs : List Int) (hrs : rs.length = 16) (lp ln ca cb : Int) (w : World)
    (hA : ∀ w1, Below w.heap.size w w1 → Calls Tryd.prog 77 #[.string a, .string a] w1 fun e w2 => e = .returned (.agg (dcells n es1)) ∧ Below w1.heap.size w1 w2)
    (hC : ∀ w1, Below w.heap.size w w1 → Calls Tryd.prog 77 #[.string b, .string b] w1 fun e w2 => e = .returned (.agg (dcells n es2)) ∧ Below w1.heap.size w1 w2)
    (hP : ∀ w1, Calls Tryd.prog 124 #[.agg (dcells n es1), .agg (dcells n es2)] w1 fun e w2 => e = .returned (.tuple #[.agg (dcells n rs), .int .i64 lp]) ∧ Below w1.heap.size w1 w2)
    (hF : ∀ w1, Calls Tryd.prog 60 #[.agg (dcells n rs), .int .i64 0] w1 fun e w2 => e = .returned (.string h) ∧ Below w1.heap.size w1 w2)
    (hl : ∀ w1, Calls Tryd.prog 76 #[.string h] w1 fun e w2 => e = .returned (.int .i64 ln) ∧ w2 = w1)
    (hca : ∀ w1, Calls Tryd.prog 76 #[.string a] w1 fun e w2 => e = .returned (.int .i64 ca) ∧ w2 = w1)
    (hcb : ∀ w1, Calls Tryd.prog 76 #[.string b] w1 fun e w2 => e = .returned (.int .i64 cb) ∧ w2 = w1) (hx : ln = ca) (hy : ln = cb) :
    Calls Tryd.prog 80 #[.string a, .string b] w fun e w' => e = .returned (.tuple #[.bool true, .int .i64 lp]) ∧ Below w.heap.size w w' := by
  have hA := Lib.hid hA
  have hC := Lib.hid hC
  have hP := Lib.hid hP
  have hF := Lib.hid hF
  have hl := Lib.hid hl
  have hca := Lib.hid hca
  have hcb := Lib.hid hcb
  have hh := Lib.hid hrs
  clear hrs
  subst hx
  subst hy
  go_enter Tryd.func80, Tryd.ntmps80
  go_wp2_with (first
    | (go_at_call 77; ((with_reducible refine (hC.out _ hB1).mono ?_); rintro e w2 ⟨rfl, hB2⟩; have hBy : Below w.heap.size w w2 := hB1.trans (hB2.mono hB1.size)))
    | (go_at_call 77; ((with_reducible refine (hA.out _ (Below.refl _ w)).mono ?_); rintro e w1 ⟨rfl, hB1⟩))
    | (go_at_call 124; ((with_reducible refine (hP.out _).mono ?_); rintro e w3 ⟨rfl, hB3⟩; have hBz : Below w.heap.size w w3 := hBy.trans (hB3.mono hBy.size)))
    | (refine wpList_store_own rfl 35 _ _ rfl _ _ rfl rfl 35 _ (Own.new w3 _ _) (row26 (d17 _ _ (hh.out))) (z_eq (d17 _ _ hh.out)) (dcells_one _ _) ?_; intro w4 hO4 hN4)
    | (refine wpList_load_row rfl 35 _ rfl _ rfl 35 _ (0, 0) _ (hO4) Tryd.underlying35 rfl (row26 (d17 _ _ (hh.out))) ?_)
    | (go_at_call 60; ((with_reducible refine (hF.out _).mono ?_); rintro e w5 ⟨rfl, hB5⟩))
    | (go_at_call 76; ((with_reducible refine (hl.out _).mono ?_); rintro e w6 ⟨rfl, rfl⟩))
    | (go_at_call 76; ((with_reducible refine (hca.out _).mono ?_); rintro e w7 ⟨rfl, rfl⟩))
    | (go_at_call 76; ((with_reducible refine (hcb.out _).mono ?_); rintro e w8 ⟨rfl, rfl⟩)))
  go_ret2
  have b4 : Below w.heap.size w w4 := (hBz.alloc hBz.size _).trans (hN4.below.mono hBz.size)
  refine ⟨?_, b4.trans (hB5.mono b4.size)⟩
  first
    | rfl
    | (simp [hx]; done)
    | (simp [hy]; done)
set_option maxRecDepth 100000 in
set_option maxHeartbeats 1000000 in
theorem pairI_tf (a b h : ByteArray) (n : Int) (es1 es2 rs : List Int) (hrs : rs.length = 16) (lp ln ca cb : Int) (w : World)
    (hA : ∀ w1, Below w.heap.size w w1 → Calls Tryd.prog 77 #[.string a, .string a] w1 fun e w2 => e = .returned (.agg (dcells n es1)) ∧ Below w1.heap.size w1 w2)
    (hC : ∀ w1, Below w.heap.size w w1 → Calls Tryd.prog 77 #[.string b, .string b] w1 fun e w2 => e = .returned (.agg (dcells n es2)) ∧ Below w1.heap.size w1 w2)
    (hP : ∀ w1, Calls Tryd.prog 124 #[.agg (dcells n es1), .agg (dcells n es2)] w1 fun e w2 => e = .returned (.tuple #[.agg (dcells n rs), .int .i64 lp]) ∧ Below w1.heap.size w1 w2)
    (hF : ∀ w1, Calls Tryd.prog 60 #[.agg (dcells n rs), .int .i64 0] w1 fun e w2 => e = .returned (.string h) ∧ Below w1.heap.size w1 w2)
    (hl : ∀ w1, Calls Tryd.prog 76 #[.string h] w1 fun e w2 => e = .returned (.int .i64 ln) ∧ w2 = w1)
    (hca : ∀ w1, Calls Tryd.prog 76 #[.string a] w1 fun e w2 => e = .returned (.int .i64 ca) ∧ w2 = w1)
    (hcb : ∀ w1, Calls Tryd.prog 76 #[.string b] w1 fun e w2 => e = .returned (.int .i64 cb) ∧ w2 = w1) (hx : ln = ca) (hy : ln ≠ cb) :
    Calls Tryd.prog 80 #[.string a, .string b] w fun e w' => e = .returned (.tuple #[.bool false, .int .i64 lp]) ∧ Below w.heap.size w w' := by
  have hA := Lib.hid hA
  have hC := Lib.hid hC
  have hP := Lib.hid hP
  have hF := Lib.hid hF
  have hl := Lib.hid hl
  have hca := Lib.hid hca
  have hcb := Lib.hid hcb
  have hh := Lib.hid hrs
  clear hrs
  subst hx
  go_enter Tryd.func80, Tryd.ntmps80
  go_wp2_with (first
    | (go_at_call 77; ((with_reducible refine (hC.out _ hB1).mono ?_); rintro e w2 ⟨rfl, hB2⟩; have hBy : Below w.heap.size w w2 := hB1.trans (hB2.mono hB1.size)))
    | (go_at_call 77; ((with_reducible refine (hA.out _ (Below.refl _ w)).mono ?_); rintro e w1 ⟨rfl, hB1⟩))
    | (go_at_call 124; ((with_reducible refine (hP.out _).mono ?_); rintro e w3 ⟨rfl, hB3⟩; have hBz : Below w.heap.size w w3 := hBy.trans (hB3.mono hBy.size)))
    | (refine wpList_store_own rfl 35 _ _ rfl _ _ rfl rfl 35 _ (Own.new w3 _ _) (row26 (d17 _ _ (hh.out))) (z_eq (d17 _ _ hh.out)) (dcells_one _ _) ?_; intro w4 hO4 hN4)
    | (refine wpList_load_row rfl 35 _ rfl _ rfl 35 _ (0, 0) _ (hO4) Tryd.underlying35 rfl (row26 (d17 _ _ (hh.out))) ?_)
    | (go_at_call 60; ((with_reducible refine (hF.out _).mono ?_); rintro e w5 ⟨rfl, hB5⟩))
    | (go_at_call 76; ((with_reducible refine (hl.out _).mono ?_); rintro e w6 ⟨rfl, rfl⟩))
    | (go_at_call 76; ((with_reducible refine (hca.out _).mono ?_); rintro e w7 ⟨rfl, rfl⟩))
    | (go_at_call 76; ((with_reducible refine (hcb.out _).mono ?_); rintro e w8 ⟨rfl, rfl⟩)))
  go_ret2
  have b4 : Below w.heap.size w w4 := (hBz.alloc hBz.size _).trans (hN4.below.mono hBz.size)
  refine ⟨?_, b4.trans (hB5.mono b4.size)⟩
  first
    | rfl
    | (simp [hx]; done)
    | (simp [hy]; done)
set_option maxRecDepth 100000 in
set_option maxHeartbeats 1000000 in
theorem pairI_f (a b h : ByteArray) (n : Int) (es1 es2 rs : List Int) (hrs : rs.length = 16) (lp ln ca cb : Int) (w : World)
    (hA : ∀ w1, Below w.heap.size w w1 → Calls Tryd.prog 77 #[.string a, .string a] w1 fun e w2 => e = .returned (.agg (dcells n es1)) ∧ Below w1.heap.size w1 w2)
    (hC : ∀ w1, Below w.heap.size w w1 → Calls Tryd.prog 77 #[.string b, .string b] w1 fun e w2 => e = .returned (.agg (dcells n es2)) ∧ Below w1.heap.size w1 w2)
    (hP : ∀ w1, Calls Tryd.prog 124 #[.agg (dcells n es1), .agg (dcells n es2)] w1 fun e w2 => e = .returned (.tuple #[.agg (dcells n rs), .int .i64 lp]) ∧ Below w1.heap.size w1 w2)
    (hF : ∀ w1, Calls Tryd.prog 60 #[.agg (dcells n rs), .int .i64 0] w1 fun e w2 => e = .returned (.string h) ∧ Below w1.heap.size w1 w2)
    (hl : ∀ w1, Calls Tryd.prog 76 #[.string h] w1 fun e w2 => e = .returned (.int .i64 ln) ∧ w2 = w1)
    (hca : ∀ w1, Calls Tryd.prog 76 #[.string a] w1 fun e w2 => e = .returned (.int .i64 ca) ∧ w2 = w1)
    (hcb : ∀ w1, Calls Tryd.prog 76 #[.string b] w1 fun e w2 => e = .returned (.int .i64 cb) ∧ w2 = w1) (hx : ln ≠ ca) :
    Calls Tryd.prog 80 #[.string a, .string b] w fun e w' => e = .returned (.tuple #[.bool false, .int .i64 lp]) ∧ Below w.heap.size w w' := by
  have hA := Lib.hid hA
  have hC := Lib.hid hC
  have hP := Lib.hid hP
  have hF := Lib.hid hF
  have hl := Lib.hid hl
  have hca := Lib.hid hca
  have hcb := Lib.hid hcb
  have hh := Lib.hid hrs
  clear hrs
  go_enter Tryd.func80, Tryd.ntmps80
  go_wp2_with (first
    | (go_at_call 77; ((with_reducible refine (hC.out _ hB1).mono ?_); rintro e w2 ⟨rfl, hB2⟩; have hBy : Below w.heap.size w w2 := hB1.trans (hB2.mono hB1.size)))
    | (go_at_call 77; ((with_reducible refine (hA.out _ (Below.refl _ w)).mono ?_); rintro e w1 ⟨rfl, hB1⟩))
    | (go_at_call 124; ((with_reducible refine (hP.out _).mono ?_); rintro e w3 ⟨rfl, hB3⟩; have hBz : Below w.heap.size w w3 := hBy.trans (hB3.mono hBy.size)))
    | (refine wpList_store_own rfl 35 _ _ rfl _ _ rfl rfl 35 _ (Own.new w3 _ _) (row26 (d17 _ _ (hh.out))) (z_eq (d17 _ _ hh.out)) (dcells_one _ _) ?_; intro w4 hO4 hN4)
    | (refine wpList_load_row rfl 35 _ rfl _ rfl 35 _ (0, 0) _ (hO4) Tryd.underlying35 rfl (row26 (d17 _ _ (hh.out))) ?_)
    | (go_at_call 60; ((with_reducible refine (hF.out _).mono ?_); rintro e w5 ⟨rfl, hB5⟩))
    | (go_at_call 76; ((with_reducible refine (hl.out _).mono ?_); rintro e w6 ⟨rfl, rfl⟩))
    | (go_at_call 76; ((with_reducible refine (hca.out _).mono ?_); rintro e w7 ⟨rfl, rfl⟩))
    | (go_at_call 76; ((with_reducible refine (hcb.out _).mono ?_); rintro e w8 ⟨rfl, rfl⟩)))
  go_ret2
  have b4 : Below w.heap.size w w4 := (hBz.alloc hBz.size _).trans (hN4.below.mono hBz.size)
  refine ⟨?_, b4.trans (hB5.mono b4.size)⟩
  first
    | rfl
    | (simp [hx]; done)
    | (simp [hy]; done)
end Go.Proofs.YtonlbelcpdfjhaaDoor
namespace Go.Proofs.YtonlbelcpdfjhaaDoor
open Go.RowKit
open LoopM
theorem okPs_app {n : Nat} {L M N : List (List UInt8)} (h : okPs n L N = true) (h' : okPs n M N = true) : okPs n (L ++ M) N = true := by
  unfold okPs at *
  rw [List.all_append, h, h']; rfl
theorem okP_HH (n : Nat) (h1 : 1 ≤ n) (h8 : n ≤ 8) : okPs n (HH n) (HH n) = true := by
  have hc : n = 1 ∨ n = 2 ∨ n = 3 ∨ n = 4 ∨ n = 5 ∨ n = 6 ∨ n = 7 ∨ n = 8 := by omega
  rcases hc with rfl | rfl | rfl | rfl | rfl | rfl | rfl | rfl
  · exact okp_1
  · exact okp_2
  · exact okp_3
  · exact okp_4
  · exact okp_5
  · exact okp_6
  · exact okp_7
  · exact okPs_app (okPs_app (okPs_app (okPs_app okp8_0 okp8_1) okp8_2) okp8_3) okp8_4
theorem okP_all {a b : List UInt8} {o1 o2 : List Int} (h1 : arcO a = some o1) (h2 : arcO b = some o2) (hl : a.length = b.length) :
    ∃ A B m gd mL L, psd a.length o1 o2 2 = some (A, B, m, gd) ∧ pl2 A B m a.length = some (mL, L) ∧
      gd = (decide (lnP a.length (dmS a.length o1 o1) (dmS a.length o2 o2) = a.count 124) && decide (lnP a.length (dmS a.length o1 o1) (dmS a.length o2 o2) = b.count 124)) ∧
      (L : Int) = loopsP a.length (mate (dmS a.length o1 o1)) (mate (dmS a.length o2 o2)) := by
  obtain ⟨_, n1, n8⟩ := arc_O8 h1
  have ma := mem_HH h1
  have mb := mem_HH h2
  rw [← hl] at mb
  have hk := okP_of (List.all_eq_true.1 (List.all_eq_true.1 (okP_HH a.length n1 n8) a ma) b mb) h1 h2
  unfold pairC at hk
  cases hp : psd a.length o1 o2 2 with
  | none => rw [hp] at hk; cases hk
  | some q =>
    obtain ⟨A, B, m, gd⟩ := q
    rw [hp] at hk
    simp only at hk
    cases hq : pl2 A B m a.length with
    | none => rw [hq] at hk; cases hk
    | some r =>
      obtain ⟨mL, L⟩ := r
      rw [hq] at hk
      simp only [Bool.and_eq_true, beq_iff_eq, decide_eq_true_eq] at hk
      refine ⟨A, B, m, gd, mL, L, rfl, hq, hk.1, ?_⟩
      rw [hk.2]
      unfold loopsP
      rw [Int.toNat_natCast]
theorem lnP_eq (n : Nat) (es1 es2 : List Int) (h8 : n ≤ 8) : lnP n es1 es2 = (upo n (prodL n (mate es1) (mate es2)) n).length := by
  unfold lnP upo
  congr 1
  apply List.filter_congr
  intro j hj
  rw [List.mem_range] at hj
  rw [prodL_get (by omega), if_pos (by omega)]
theorem some_of3 {l : List UInt8} (h : isHf l = true) : ∃ o, arcO l = some o := by
  unfold isHf at h
  cases hq : arcO l with
  | none => rw [hq] at h; cases h
  | some o => exact ⟨o, rfl⟩
theorem pair_both (a b : ByteArray) (m : Int) (w : World) (hm : Ml w m) (ha : a.size ≤ 1048576) (hb : b.size ≤ 1048576) :
    ∃ (gd : Bool) (lp c : Int),
      (∀ w1, Below w.heap.size w w1 → Calls Tryd.prog 31 #[.string a, .string b] w1 fun e w2 => e = .returned (.tuple #[.bool gd, .int .i64 lp, .int .i64 c]) ∧ Below w1.heap.size w1 w2) ∧
      (∀ w1, Below w.heap.size w w1 → Calls Tryd.prog 30 #[.string a, .string b] w1 fun e w2 => e = .returned (.tuple #[.bool gd, .int .i64 lp, .int .i64 c]) ∧ Below w1.heap.size w1 w2) := by
  have hm' : ∀ w1, Below w.heap.size w w1 → Ml w1 m := fun w1 h => hm.below h hm.lt
  have IA : ∀ w1, Ml w1 m → _ := fun w1 h => isHalfI_is a m w1 h ha
  have IB : ∀ w1, Ml w1 m → _ := fun w1 h => isHalfI_is b m w1 h hb
  have SA : ∀ w1, Calls Tryd.prog 61 #[.string a] w1 fun e w' => e = .returned (.bool (isHf a.data.toList)) ∧ Below w1.heap.size w1 w' := fun w1 => l04Is_any a w1 ha
  have SB : ∀ w1, Calls Tryd.prog 61 #[.string b] w1 fun e w' => e = .returned (.bool (isHf b.data.toList)) ∧ Below w1.heap.size w1 w' := fun w1 => l04Is_any b w1 hb
  cases h1 : isHf a.data.toList with
  | false =>
    rw [h1] at IA SA
    exact ⟨false, 0, 1, fun w1 h => phS_bad1 a b w1 (fun w2 _ => SA w2), fun w1 h => phI_bad1 a b w1 (fun w2 h2 => IA w2 ((hm' w1 h).below h2 (hm' w1 h).lt))⟩
  | true =>
    rw [h1] at IA SA
    cases h2 : isHf b.data.toList with
    | false =>
      rw [h2] at IB SB
      exact ⟨false, 0, 1, fun w1 h => phS_bad2 a b w1 (fun w2 _ => SA w2) (fun w2 _ => SB w2), fun w1 h => phI_bad2 a b w1 (fun w2 h2 => IA w2 ((hm' w1 h).below h2 (hm' w1 h).lt)) (fun w2 h2 => IB w2 ((hm' w1 h).below h2 (hm' w1 h).lt))⟩
    | true =>
      rw [h2] at IB SB
      by_cases hne : (a.size : Int) = (b.size : Int)
      · obtain ⟨o1, e1⟩ := some_of3 h1
        obtain ⟨o2, e2⟩ := some_of3 h2
        have hs : b.size = a.size := by omega
        have la : a.data.toList.length = a.size := by rw [Array.length_toList]; rfl
        have lb : b.data.toList.length = a.size := by rw [Array.length_toList]; exact hs
        obtain ⟨es1, q0, q1, q2, q3, q4, q5, q6⟩ := self_hd e1
        obtain ⟨es2, r0, r1, r2, r3, r4, r5, r6⟩ := self_hd e2
        obtain ⟨A, B, mt, gd, mL, L, p1, p2, p3, p4⟩ := okP_all e1 e2 (by rw [la, lb])
        rw [la] at q0 q1 q3 p1 p2 p3 p4
        rw [lb] at r0 r1 r3
        rw [q0, r0] at p3 p4
        have n18 := arc_O8 e1
        rw [la] at n18
        obtain ⟨_, n1, n8⟩ := n18
        rw [lnP_eq _ _ _ n8] at p3
        have hpd := prodD2 a.size es1 es2 q2 r2 q3 r3
        have hch := cnt_half a.size (prodL a.size (mate es1) (mate es2)) hpd.1
        have hIP := fun w1 => prodI_any a.size es1 es2 q4 r4 q2 r2 q3 r3 w1
        have hrl := prodL_len a.size (mate es1) (mate es2)
        rw [← p4] at hIP
        have hIF := fun w1 => halfI_any a.size 0 (prodL a.size (mate es1) (mate es2)) hrl hpd.1 w1 (by omega) (by omega) (.inl rfl)
        have IHA : ∀ w1, Ml w1 m → Calls Tryd.prog 77 #[.string a, .string a] w1 fun e w2 => e = .returned (.agg (dcells a.size es1)) ∧ Below w1.heap.size w1 w2 := fun w1 h => hdI_any a a m w1 h ha ha _ _ q1
        have IHB : ∀ w1, Ml w1 m → Calls Tryd.prog 77 #[.string b, .string b] w1 fun e w2 => e = .returned (.agg (dcells a.size es2)) ∧ Below w1.heap.size w1 w2 := fun w1 h => hdI_any b b m w1 h hb hb _ _ r1
        have SP : ∀ w1, Calls Tryd.prog 81 #[.string a, .string b] w1 fun e w2 => e = .returned (.tuple #[.bool gd, .int .i64 (L : Int)]) ∧ Below w1.heap.size w1 w2 := fun w1 => pairS_any a b hs o1 o2 e1 e2 A B mt gd p1 mL L p2 w1
        have IP : ∀ w1, Ml w1 m → Calls Tryd.prog 80 #[.string a, .string b] w1 fun e w2 => e = .returned (.tuple #[.bool gd, .int .i64 (L : Int)]) ∧ Below w1.heap.size w1 w2 := fun w1 hml => by
          by_cases cx : (upo a.size (prodL a.size (mate es1) (mate es2)) a.size).length = a.data.toList.count 124
          · by_cases cy : (upo a.size (prodL a.size (mate es1) (mate es2)) a.size).length = b.data.toList.count 124
            · have eg : gd = true := by rw [p3, decide_eq_true cx, decide_eq_true cy]; rfl
              rw [eg]
              exact pairI_tt a b _ _ es1 es2 _ hrl _ _ _ _ w1 (fun w3 h3 => IHA w3 (hml.below h3 hml.lt)) (fun w3 h3 => IHB w3 (hml.below h3 hml.lt)) hIP hIF (fun w3 => cntI_any _ w3) (fun w3 => cntI_any a w3) (fun w3 => cntI_any b w3) (by rw [hch]; unfold cnt; omega) (by rw [hch]; unfold cnt; omega)
            · have eg : gd = false := by rw [p3, decide_eq_false cy, Bool.and_false]
              rw [eg]
              exact pairI_tf a b _ _ es1 es2 _ hrl _ _ _ _ w1 (fun w3 h3 => IHA w3 (hml.below h3 hml.lt)) (fun w3 h3 => IHB w3 (hml.below h3 hml.lt)) hIP hIF (fun w3 => cntI_any _ w3) (fun w3 => cntI_any a w3) (fun w3 => cntI_any b w3) (by rw [hch]; unfold cnt; omega) (by rw [hch]; unfold cnt; omega)
          · have eg : gd = false := by rw [p3, decide_eq_false cx, Bool.false_and]
            rw [eg]
            exact pairI_f a b _ _ es1 es2 _ hrl _ _ _ _ w1 (fun w3 h3 => IHA w3 (hml.below h3 hml.lt)) (fun w3 h3 => IHB w3 (hml.below h3 hml.lt)) hIP hIF (fun w3 => cntI_any _ w3) (fun w3 => cntI_any a w3) (fun w3 => cntI_any b w3) (by rw [hch]; unfold cnt; omega)
        exact ⟨gd, L, 0, fun w1 h => phS_ok a b w1 (fun w2 _ => SA w2) (fun w2 _ => SB w2) hne gd L (fun w2 _ => SP w2),
          fun w1 h => phI_ok a b w1 (fun w2 h2 => IA w2 ((hm' w1 h).below h2 (hm' w1 h).lt)) (fun w2 h2 => IB w2 ((hm' w1 h).below h2 (hm' w1 h).lt)) hne gd L (fun w2 h2 => IP w2 ((hm' w1 h).below h2 (hm' w1 h).lt))⟩
      · exact ⟨false, 0, 2, fun w1 h => phS_size a b w1 (fun w2 _ => SA w2) (fun w2 _ => SB w2) hne,
          fun w1 h => phI_size a b w1 (fun w2 h2 => IA w2 ((hm' w1 h).below h2 (hm' w1 h).lt)) (fun w2 h2 => IB w2 ((hm' w1 h).below h2 (hm' w1 h).lt)) hne⟩
set_option maxRecDepth 100000 in
set_option maxHeartbeats 1000000 in
theorem pair_law (a b : ByteArray) (m : Int) (w : World) (hm : Ml w m) (hz : a.size ≤ maxLen) (hz' : b.size ≤ maxLen) :
    Calls Tryd.prog 7 #[.string a, .string b] w fun e w' => e = .returned (.bool true) ∧ Below w.heap.size w w' := by
  unfold maxLen at hz hz'
  by_cases h : (1048576 : Int) < (a.size : Int)
  · go_enter Tryd.func7, Tryd.ntmps7
    go_wp2
    go_ret
    exact ⟨rfl, Below.refl _ _⟩
  · by_cases h' : (1048576 : Int) < (b.size : Int)
    · go_enter Tryd.func7, Tryd.ntmps7
      go_wp2
      go_ret
      exact ⟨rfl, Below.refl _ _⟩
    · obtain ⟨gd, lp, c, hS, hI⟩ := pair_both a b m w hm (by omega) (by omega)
      have hS := Lib.hid hS
      have hI := Lib.hid hI
      clear hm
      cases gd
      all_goals (
        go_enter Tryd.func7, Tryd.ntmps7
        go_wp2_with (first
          | (go_at_call 31; ((with_reducible refine (hS.out _ (Below.refl _ w)).mono ?_); rintro e w1 ⟨rfl, hB1⟩))
          | (go_at_call 30; ((with_reducible refine (hI.out _ hB1).mono ?_); rintro e w2 ⟨rfl, hB2⟩)))
        go_ret
        exact ⟨rfl, hB1.trans (hB2.mono hB1.size)⟩)
end Go.Proofs.YtonlbelcpdfjhaaDoor
