/- Plain mathematics: a product of a diagram with that of a half diagram has no more open points above than the half diagram. The contract of the model's pairing of two half diagrams. PairHalves, the program's and the model's, by outcome; the contract of the program's pairing. The law of PairHalves. GramDeterminant and GramRank: both contracts and the laws. The laws' comparisons, marks and holds of tables, for any table whose rows lie in one block. Tables of both kinds, to be read. GramTable: both contracts and the law. -/
import Derived.Test.YtopenojociafaaaDoorPlanM
import Derived.Test.YtopenojociafaaaDoorGmg
import Derived.Test.YtopenojociafaaaDoorGxCnt
import Derived.Test.YtopenojociafaaaDoorGxLawIsH
import Derived.Test.YtopenojociafaaaDoorPairM
import Derived.Test.YtopenojociafaaaDoorGxArcs
import Derived.Test.YtopenojociafaaaDoorGmh
import Derived.Test.YtopenojociafaaaDoorOkPA
import Derived.Test.YtopenojociafaaaDoorOkPB
import Derived.Test.YtopenojociafaaaDoorOkPC
import Derived.Test.YtopenojociafaaaDoorGmd
import Derived.Test.YtopenojociafaaaDoorGxEls
import Derived.Test.YtopenojociafaaaDoorGme
import Derived.Test.YtopenojociafaaaDoorGmf
import Derived.Test.YtopenojociafaaaDoorGma
import Derived.Lib.QuietBelow
import Derived.BigQuiet
import Derived.Test.YtopenojociafaaaDoorGmb
namespace Go.Proofs.YtopenojociafaaaDoor
open Go.RowKit
theorem inj_len (f : Nat → Nat) : ∀ (l1 l2 : List Nat), l1.Nodup → (∀ x ∈ l1, f x ∈ l2) → (∀ x ∈ l1, ∀ y ∈ l1, f x = f y → x = y) → l1.length ≤ l2.length
  | [], _, _, _, _ => Nat.zero_le _
  | x :: l1, l2, hn, hm, hi => by
    have hx := hm x (by simp)
    have hn' := List.nodup_cons.1 hn
    have h := inj_len f l1 (l2.erase (f x)) hn'.2 (fun y hy => (List.mem_erase_of_ne (fun e => hn'.1 (by
      have := hi x (by simp) y (by simp [hy]) e.symm
      rw [this]; exact hy))).2 (hm y (by simp [hy]))) (fun y hy z hz e => hi y (by simp [hy]) z (by simp [hz]) e)
    rw [List.length_erase_of_mem hx] at h
    have := List.length_pos_of_mem hx
    simp only [List.length_cons]; omega
/-- The points above whose lines go through. -/
def upo (N : Nat) (ms : List Int) (k : Nat) : List Nat := (List.range k).filter (fun j => decide ((N : Int) ≤ ms.getD j 0))
theorem cnt_hfL (N : Nat) (ms : List Int) (hb : Bytes ms) (k : Nat) : ((hfL N 0 ms k).map fun n => UInt8.ofNat n.toNat).count 124 = (upo N ms k).length := by
  induction k with
  | zero => rfl
  | succ k ih =>
    have e : (upo N ms (k + 1)).length = (upo N ms k).length + (if (N : Int) ≤ ms.getD k 0 then 1 else 0) := by
      unfold upo
      rw [List.range_succ, List.filter_append, List.length_append]
      congr 1
      simp only [List.filter_cons, List.filter_nil, decide_eq_true_eq]
      split <;> rfl
    rw [e, hfL, List.map_append, List.count_append, ih]
    congr 1
    have hm := hb.get k
    have e0 : (0 : Int).toNat + k = k := by simp
    rw [e0]
    unfold hch
    by_cases c : (N : Int) ≤ ms.getD k 0
    · rw [if_pos c, if_pos (.inr (by omega))]; rfl
    · rw [if_neg c, if_neg (by omega)]
      split <;> rfl
theorem cnt_half (N : Nat) (ms : List Int) (hb : Bytes ms) : cnt (halfB N 0 ms).data.toList = (upo N ms N).length := by
  unfold cnt
  rw [← cnt_hfL N ms hb N]
  rfl
theorem fol_low {n : Int} {d e : Int → Int} (hd : Mt n d) (he : Mt n e) (h1 : 1 ≤ n) (h8 : n ≤ 8) {p : Int} (h0 : n ≤ p) (h2 : p < 2 * n) (h : eP n d e p < n) : e p < n := by
  have hf := fol_p hd he h1 h8 (p := p) (by omega) h2
  rw [show decide (p < n) = false by simp; omega] at hf
  obtain ⟨f', _, ⟨a, b, _⟩ | ⟨a, _⟩⟩ := fol_f hf
  · omega
  · exact a
theorem upo_le (N : Nat) (ms es : List Int) (h1 : 1 ≤ N) (h8 : N ≤ 8) (hbd : Bytes ms) (hbe : Bytes es) (hd : IsS N ms) (he : IsS N es) :
    (upo N (prodL N (mate ms) (mate es)) N).length ≤ (upo N es N).length := by
  have md := mt_of hbd hd
  have me := mt_of hbe he
  have mp : Mt N (mate (prodL N (mate ms) (mate es))) := mt_of (prod_bytes md me (by omega) (by omega)) (prod_isS md me (nc_of hbd hd) (nc_of hbe he) (by omega) (by omega))
  obtain ⟨pr, hpr⟩ : ∃ pr, prodL N (mate ms) (mate es) = pr := ⟨_, rfl⟩
  rw [hpr] at mp ⊢
  have key : ∀ x ∈ upo N pr N, x < N ∧ (N : Int) ≤ mate pr x ∧ mate pr x < 2 * N ∧ mate pr (mate pr x) = x ∧ mate es (mate pr x) < N ∧ 0 ≤ mate es (mate pr x) ∧ mate es (mate es (mate pr x)) = mate pr x := by
    intro x hx
    unfold upo at hx
    rw [List.mem_filter, List.mem_range, decide_eq_true_eq] at hx
    obtain ⟨x1, x2⟩ := hx
    have e0 : mate pr x = pr.getD x 0 := by unfold mate; simp
    rw [← e0] at x2
    have lt := mp.lt x (by omega) (by omega)
    have iv := mp.inv x (by omega) (by omega)
    have e2 : eP N (mate ms) (mate es) (mate pr x) = x := by
      have := prod_mate (n := (N : Int)) (d := mate ms) (e := mate es) (by omega) (p := mate pr x) lt.1 lt.2
      rw [hpr, iv] at this; exact this.symm
    have lo := fol_low md me (by omega) (by omega) x2 lt.2 (by rw [e2]; omega)
    have l2 := me.lt (mate pr x) lt.1 lt.2
    exact ⟨x1, x2, lt.2, iv, lo, l2.1, me.inv _ lt.1 lt.2⟩
  refine inj_len (fun x => (mate es (mate pr x)).toNat) _ _ (List.Pairwise.sublist List.filter_sublist List.nodup_range) (fun x hx => ?_) (fun x hx y hy e => ?_)
  · obtain ⟨x1, x2, x3, x4, x5, x6, x7⟩ := key x hx
    unfold upo
    rw [List.mem_filter, List.mem_range, decide_eq_true_eq]
    refine ⟨by omega, ?_⟩
    have : mate es (mate es (mate pr x)) = es.getD (mate es (mate pr x)).toNat 0 := rfl
    omega
  · obtain ⟨x1, x2, x3, x4, x5, x6, x7⟩ := key x hx
    obtain ⟨y1, y2, y3, y4, y5, y6, y7⟩ := key y hy
    have e' : (mate es (mate pr x)).toNat = (mate es (mate pr y)).toNat := e
    have e1 : mate es (mate pr x) = mate es (mate pr y) := by omega
    have e2 : mate pr x = mate pr y := by rw [← x7, ← y7, e1]
    have e3 : (x : Int) = y := by rw [← x4, ← y4, e2]
    omega
/-- A product of two diagrams, as a diagram. -/
theorem prodD2 (n : Int) (ds es : List Int) (hbd : Bytes ds) (hbe : Bytes es) (hd : IsS n ds) (he : IsS n es) : Bytes (prodL n (mate ds) (mate es)) ∧ IsS n (prodL n (mate ds) (mate es)) :=
  ⟨prod_bytes (mt_of hbd hd) (mt_of hbe he) hd.1.1 hd.1.2, prod_isS (mt_of hbd hd) (mt_of hbe he) (nc_of hbd hd) (nc_of hbe he) hd.1.1 hd.1.2⟩
/-- The diagram of a half diagram with itself: what it is, and its upper half. -/
theorem self_hd {a : List UInt8} {o : List Int} (h : arcO a = some o) : ∃ es : List Int, dmS a.length o o = es ∧ parse (tohL a a) = some ((a.length : Int), es) ∧ Bytes es ∧ IsS a.length es ∧ es.length = 16 ∧ (dm1 a.length o o a.length).2.1.length = (dm1 a.length o o a.length).2.2.length ∧ cnt a = (upo a.length es a.length).length := by
  obtain ⟨g1, g2⟩ := okD_all h h rfl rfl
  have hb := (parse_bytes _ _ _ g2).1
  refine ⟨_, rfl, g2, hb, parse_isS _ _ _ g2, dmS_len _ _ _, g1, ?_⟩
  have hi : ihB a = true := by rw [ihB_eq, h]; rfl
  unfold ihB at hi
  rw [g2] at hi
  simp only [Int.toNat_natCast, decide_eq_true_eq] at hi
  rw [← cnt_half _ _ hb]
  unfold halfB
  rw [Int.toNat_natCast, hi, LI_str]
end Go.Proofs.YtopenojociafaaaDoor
namespace Go.Proofs.YtopenojociafaaaDoor
open Go.RowKit
theorem rowb {c : Array Value} (h : c.size = 8) : (Tryd.prog.info? 84).map (·.size) = some c.size := by
  rw [h]; kernel_rfl
theorem one8b (m : List Bool) : (bcells m).all (·.oneCell') = true := by simp [bcells, Value.oneCell']
theorem b8s (m : List Bool) (h : m.length = 8) : (bcells m).size = 8 := by simp [bcells, h]
theorem f8l : f8.length = 8 := rfl
theorem builtb : Tryd.prog.built 84 [] = some (bcells f8) := by kernel_rfl
theorem ne_own {w : World} {b b' : Nat} {cs cs' : Array Value} {t t' : TypeId} (h : Own w b cs t) (h' : Own w b' cs' t') (ht : t ≠ t') : b ≠ b' := by
  intro e
  subst e
  have : some (Obj.cells cs t (0, 0)) = some (Obj.cells cs' t' (0, 0)) := (show w.heap[b]? = _ from h).symm.trans h'
  simp at this
  exact ht this.2
set_option maxRecDepth 100000 in
set_option maxHeartbeats 4000000 in
theorem pairS_any (a b : ByteArray) (hb : b.size = a.size) (o1 o2 : List Int) (h1 : arcO a.data.toList = some o1) (h2 : arcO b.data.toList = some o2) (A2 B2 : List Int) (mt2 : List Bool) (gd2 : Bool) (hps : psd a.size o1 o2 2 = some (A2, B2, mt2, gd2)) (mL : List Bool) (L : Nat) (hpl : pl2 A2 B2 mt2 a.size = some (mL, L)) (w : World) :
    Calls Tryd.prog 44 #[.string a, .string b] w fun e w' => e = .returned (.tuple #[.bool gd2, .int .i64 (L : Int)]) ∧ Below w.heap.size w w' := by
  obtain ⟨O1, n1, n8⟩ := arc_O8 h1
  obtain ⟨O2, _, _⟩ := arc_O8 h2
  rw [Array.length_toList] at n1 n8
  have n1 : 1 ≤ a.size := n1
  have n8 : a.size ≤ 8 := n8
  have hA := Lib.hid (fun w => (arcs_any a w (by omega)).mono fun e w' (h : ArcPost _ w e w') => show e = .returned (.tuple #[.agg (icells o1), .bool true]) ∧ Below w.heap.size w w' from by
    obtain ⟨o, c, _, rfl, hy, hn, hB⟩ := h
    cases c with
    | true => have := hy rfl; rw [h1] at this; cases this; exact ⟨rfl, hB⟩
    | false => have := hn rfl; rw [h1] at this; cases this)
  have hC := Lib.hid (fun w => (arcs_any b w (by omega)).mono fun e w' (h : ArcPost _ w e w') => show e = .returned (.tuple #[.agg (icells o2), .bool true]) ∧ Below w.heap.size w w' from by
    obtain ⟨o, c, _, rfl, hy, hn, hB⟩ := h
    cases c with
    | true => have := hy rfl; rw [h2] at this; cases this; exact ⟨rfl, hB⟩
    | false => have := hn rfl; rw [h2] at this; cases this)
  have O1 := Lib.hid O1
  have O2 := Lib.hid O2
  have HP := Lib.hid hps
  have HL := Lib.hid hpl
  clear h1 h2 hps hpl
  go_enter Tryd.func44, Tryd.ntmps44
  go_wp2_with (first
    | (refine wpList_build_of rfl 84 #[] rfl (bcells f8) ?_ ?_; (exact builtb))
    | (go_at_call 68; ((with_reducible refine (hC.out _).mono ?_); rintro e w3 ⟨rfl, hB3⟩))
    | (go_at_call 68; ((with_reducible refine (hA.out _).mono ?_); rintro e w1 ⟨rfl, hB1⟩))
    | (refine wpList_store_own rfl 84 _ _ rfl _ _ rfl rfl 84 _ (Own.new w4 _ _) (rowb (b8s f8 f8l)) rfl (one8b _) ?_; intro w5 hO5 hN5)
    | (refine wpList_store_own rfl 81 _ _ rfl _ _ rfl rfl 81 _ (Own.new w3 _ _) (row8i (i8s _ (O2.out.1))) (i88 z8l O2.out.1) (one8i _) ?_; intro w4 hO4 hN4)
    | (refine wpList_store_own rfl 81 _ _ rfl _ _ rfl rfl 81 _ (Own.new w1 _ _) (row8i (i8s _ (O1.out.1))) (i88 z8l O1.out.1) (one8i _) ?_; intro w2 hO2 hN2))
  have s1 := hB1.size
  have s2 : w2.heap.size = w1.heap.size + 1 := by rw [hN2.size]; simp
  have s3 := hB3.size
  have s4 : w4.heap.size = w3.heap.size + 1 := by rw [hN4.size]; simp
  have q8 : Own w5 w3.heap.size (icells o2) 81 := (hO4.alloc _).only hN5 (by omega)
  have q6 : Own w5 w1.heap.size (icells o1) 81 := ((((hO2.below hB3 (by omega)).alloc _).only hN4 (by omega)).alloc _).only hN5 (by omega)
  have qB : Below w.heap.size w w5 := by
    have x2 := (hB1.alloc hB1.size _).trans (hN2.below.mono hB1.size)
    have x3 := x2.trans (hB3.mono (by omega))
    have x4 := (x3.alloc (by omega) _).trans (hN4.below.mono (by omega))
    exact (x4.alloc (by omega) _).trans (hN5.below.mono (by omega))
  obtain ⟨g6, e6⟩ : ∃ g, w1.heap.size = g := ⟨_, rfl⟩
  obtain ⟨g8, e8⟩ : ∃ g, w3.heap.size = g := ⟨_, rfl⟩
  obtain ⟨g10, e10⟩ : ∃ g, w4.heap.size = g := ⟨_, rfl⟩
  have n68 : g6 ≠ g8 := by omega
  have b6 : w.heap.size ≤ g6 := by omega
  have b8 : w.heap.size ≤ g8 := by omega
  have b10 : w.heap.size ≤ g10 := by omega
  rw [e6] at q6
  rw [e8] at q8
  rw [e10] at hO5
  rw [e6, e8, e10]
  have A1 := Lib.hid q6
  have A2' := Lib.hid q8
  have A3 := Lib.hid hO5
  have A4 := Lib.hid qB
  clear q6 q8 hO5 qB hB1 hB3 hN2 hN4 hN5 hO2 hO4 s1 s2 s3 s4 e6 e8 e10 hA hC
  go_loopw [11, 13] (fun g s wx => ∃ (j : Nat) (A B : List Int) (mt : List Bool) (gd : Bool), j ≤ 2 ∧ s = .int .i64 j ∧ g = .bool gd ∧ Hid (psd a.size o1 o2 j = some (A, B, mt, gd)) ∧ Hid (O8 A ∧ O8 B ∧ mt.length = 8) ∧ Own wx g6 (icells A) 81 ∧ Own wx g8 (icells B) 81 ∧ Own wx g10 (bcells mt) 84 ∧ Below w.heap.size w wx) (fun _ s _ => (2 - intOf s).toNat)
  case atStart => exact ⟨0, o1, o2, f8, true, by omega, rfl, rfl, Lib.hid rfl, Lib.hid ⟨O1.out, O2.out, rfl⟩, A1.out, A2'.out, A3.out, A4.out⟩
  case round =>
    clear A1 A2' A3 A4
    obtain ⟨j, A, B, mt, gd, hj, rfl, rfl, hP, hO, h6, h8, h10, hB⟩ := hrel
    obtain ⟨OA, OB, hml⟩ := hO.out
    have OA := Lib.hid OA
    have OB := Lib.hid OB
    have hml := Lib.hid hml
    have n610 : g6 ≠ g10 := ne_own h6 h10 (by decide)
    have n810 : g8 ≠ g10 := ne_own h8 h10 (by decide)
    have n106 : g10 ≠ g6 := n610.symm
    have n108 : g10 ≠ g8 := n810.symm
    by_cases hlt : j < 2
    · have hltI : (j : Int) < 2 := by omega
      obtain ⟨m', g', hpi, hpn⟩ := psd_def HP.out j hlt hP.out
      have HI := Lib.hid hpi
      have HN := Lib.hid hpn
      have A1 := Lib.hid h6
      have A2' := Lib.hid h8
      have A3 := Lib.hid h10
      have A4 := Lib.hid hB
      clear hpi hpn h6 h8 h10 hB hP hO
      go_wp2
      go_loopw [11, 14] (fun g i wx => ∃ (k : Nat) (mt' : List Bool) (gd' : Bool), k ≤ a.size ∧ i = .int .i64 k ∧ g = .bool gd' ∧ Hid (pi A B (mt, gd) k = some (mt', gd')) ∧ Hid (mt'.length = 8) ∧ Own wx g6 (icells A) 81 ∧ Own wx g8 (icells B) 81 ∧ Own wx g10 (bcells mt') 84 ∧ Below w.heap.size w wx) (fun _ i _ => (a.size - intOf i).toNat)
      case atStart => exact ⟨0, mt, gd, by omega, rfl, rfl, Lib.hid rfl, hml, A1.out, A2'.out, A3.out, A4.out⟩
      case round =>
        clear A1 A2' A3 A4
        obtain ⟨k, mt', gd', hk, rfl, rfl, hPk, hm', h6, h8, h10, hB⟩ := hrel
        by_cases hkl : k < a.size
        · have hkI : (k : Int) < a.size := by omega
          have k8 : k < 8 := by omega
          have c10 : wr.cell? ⟨g10, k, none⟩ = some (.bool (mt'.getD k true)) := by rw [h10.cell, bcells_get _ _ (by rw [hm'.out]; omega)]
          have c6 : wr.cell? ⟨g6, k, none⟩ = some (.int .i64 (A.getD k 0)) := by rw [h6.cell, icells_get _ _ (by rw [OA.out.1]; omega)]
          by_cases cm : mt'.getD k true = true
          · have HS := Lib.hid (pi_skip hPk.out (.inl cm))
            rw [cm] at c10
            go_wp2
            go_roundw
            case rel => exact ⟨k + 1, mt', gd', by omega, by go_num, rfl, HS, hm', h6, h8, h10, hB⟩
            case measure => simp [intOf] <;> omega
          · have cm' : mt'.getD k true = false := by simpa using cm
            by_cases cx : A.getD k 0 = (k : Int)
            · have hnc : ¬ (mt'.getD k true = true ∨ A.getD k 0 ≠ (k : Int)) := by
                rintro (h | h)
                · exact cm h
                · exact h cx
              obtain ⟨mE, gE, hpw⟩ := pi_pw HI.out hkl hPk.out hnc
              have HG := Lib.hid (pi_go hPk.out hnc hpw)
              clear hnc
              rw [cm'] at c10
              rw [cx] at c6
              have A1 := Lib.hid h6
              have A2' := Lib.hid h8
              have A3 := Lib.hid h10
              have A4 := Lib.hid hB
              have HW := Lib.hid hpw
              clear h6 h8 h10 hB hpw hPk cm cm' cx
              go_wp2
              clear c10 c6
              go_loopg [11, 15, 16] 9 (fun f gg at' up wx => ∃ (q : Nat) (u : Bool) (m2 : List Bool), gg = .bool gd' ∧ at' = .int .i64 q ∧ up = .bool u ∧ q < 8 ∧ Hid (m2.length = 8) ∧ Hid (pwk A B f q u m2 = some (mE, gE)) ∧ Own wx g6 (icells A) 81 ∧ Own wx g8 (icells B) 81 ∧ Own wx g10 (bcells m2) 84 ∧ Below w.heap.size w wx)
              case atStart => exact ⟨k, false, mt', rfl, rfl, rfl, k8, hm', HW, A1.out, A2'.out, A3.out, A4.out⟩
              case round =>
                clear A1 A2' A3 A4 HW
                obtain ⟨q, u, m2, rfl, rfl, rfl, q8, hm2, hW, h6, h8, h10, hB⟩ := hrel
                obtain ⟨f', hff⟩ := pw_pos hW.out
                subst hff
                obtain ⟨p, hpA, p8⟩ := nat_of OA.out q
                obtain ⟨r, hrB, r8⟩ := nat_of OB.out q
                have m1 : wr.cell? ⟨g10, q, none⟩ = some (.bool (m2.getD q true)) := by rw [h10.cell, bcells_get _ _ (by rw [hm2.out]; omega)]
                have f1 := h10.free q
                have a6 : wr.cell? ⟨g6, q, none⟩ = some (.int .i64 (p : Int)) := by rw [h6.cell, icells_get _ _ (by rw [OA.out.1]; omega), hpA]
                have a8 : wr.cell? ⟨g8, q, none⟩ = some (.int .i64 (r : Int)) := by rw [h8.cell, icells_get _ _ (by rw [OB.out.1]; omega), hrB]
                have D1 := h10.set q (.bool true)
                rw [bcells_set] at D1
                have N1 : Only g10 wr (wr.setCell ⟨g10, q, none⟩ (.bool true)) := Only.set _ _ _ _
                have K6 := Lib.hid (h6.only N1 n610)
                have K8 := Lib.hid (h8.only N1 n810)
                have KB := Lib.hid (hB.trans (N1.below.mono b10))
                have hpA := Lib.hid hpA
                have hrB := Lib.hid hrB
                clear N1
                cases u with
                | true =>
                  by_cases c : p = q
                  · have bx : ((p : Int) == (p : Int)) = true := by simp
                    obtain ⟨eM, eG⟩ := pw_exit hW.out (show nx A B true q = (q : Int) by unfold nx; simp only [if_true]; rw [hpA.out, c])
                    subst c
                    have HS := Lib.hid (show pi A B (mt, gd) (k + 1) = some (mE, gd' && gE) from HG.out)
                    have K10 := Lib.hid (show Own (wr.setCell ⟨g10, p, none⟩ (.bool true)) g10 (bcells mE) 84 by rw [eM]; exact D1)
                    have KM := Lib.hid (show mE.length = 8 by rw [eM, List.length_set]; exact hm2.out)
                    have eG' : gE = false := eG
                    clear eM D1 hW HG eG
                    subst eG'
                    cases gd'
                    all_goals (
                      go_wp2
                      go_roundw
                      case rel => exact ⟨k + 1, mE, _, by omega, by go_num, rfl, HS, KM, K6.out, K8.out, K10.out, KB.out⟩
                      case measure => simp [intOf] <;> omega)
                  · have hW2 := Lib.hid (pw_next hW.out (show nx A B true q = (p : Int) by unfold nx; simp only [if_true]; exact hpA.out) c)
                    have bx : ((p : Int) == (q : Int)) = false := by simp; omega
                    have d2 : (wr.setCell ⟨g10, q, none⟩ (.bool true)).cell? ⟨g10, p, none⟩ = some (.bool ((m2.set q true).getD p true)) := by rw [D1.cell, bcells_get _ _ (by rw [List.length_set, hm2.out]; omega)]
                    have d3 : wr.cell? ⟨g10, p, none⟩ = some (.bool (m2.getD p true)) := by rw [h10.cell, bcells_get _ _ (by rw [hm2.out]; omega)]
                    have f2 := D1.free p
                    have f3 := h10.free p
                    have D2 := D1.set p (.bool true)
                    rw [bcells_set] at D2
                    have N2 : Only g10 wr ((wr.setCell ⟨g10, q, none⟩ (.bool true)).setCell ⟨g10, p, none⟩ (.bool true)) := (Only.set _ _ _ _).trans (Only.set _ _ _ _)
                    have J10 := Lib.hid D2
                    have J6 := Lib.hid (h6.only N2 n610)
                    have J8 := Lib.hid (h8.only N2 n810)
                    have JB := Lib.hid (hB.trans (N2.below.mono b10))
                    have JM := Lib.hid (show ((m2.set q true).set p true).length = 8 by simp [hm2.out])
                    clear D1 D2 N2 h6 h8 h10 hB hW K6 K8 KB
                    go_wp2
                    go_roundg f'
                    case measure => omega
                    case rel => exact ⟨p, false, _, rfl, rfl, rfl, by omega, JM, hW2, J6.out, J8.out, J10.out, JB.out⟩
                | false =>
                  by_cases c : r = q
                  · have bx : ((r : Int) == (r : Int)) = true := by simp
                    obtain ⟨eM, eG⟩ := pw_exit hW.out (show nx A B false q = (q : Int) by unfold nx; simp only [Bool.false_eq_true, if_false]; rw [hrB.out, c])
                    subst c
                    have HS := Lib.hid (show pi A B (mt, gd) (k + 1) = some (mE, gd' && gE) from HG.out)
                    have K10 := Lib.hid (show Own (wr.setCell ⟨g10, r, none⟩ (.bool true)) g10 (bcells mE) 84 by rw [eM]; exact D1)
                    have KM := Lib.hid (show mE.length = 8 by rw [eM, List.length_set]; exact hm2.out)
                    have eG' : gE = true := eG
                    clear eM D1 hW HG eG
                    subst eG'
                    cases gd'
                    all_goals (
                      go_wp2
                      go_roundw
                      case rel => exact ⟨k + 1, mE, _, by omega, by go_num, rfl, HS, KM, K6.out, K8.out, K10.out, KB.out⟩
                      case measure => simp [intOf] <;> omega)
                  · have hW2 := Lib.hid (pw_next hW.out (show nx A B false q = (r : Int) by unfold nx; simp only [Bool.false_eq_true, if_false]; exact hrB.out) c)
                    have bx : ((r : Int) == (q : Int)) = false := by simp; omega
                    have d2 : (wr.setCell ⟨g10, q, none⟩ (.bool true)).cell? ⟨g10, r, none⟩ = some (.bool ((m2.set q true).getD r true)) := by rw [D1.cell, bcells_get _ _ (by rw [List.length_set, hm2.out]; omega)]
                    have d3 : wr.cell? ⟨g10, r, none⟩ = some (.bool (m2.getD r true)) := by rw [h10.cell, bcells_get _ _ (by rw [hm2.out]; omega)]
                    have f2 := D1.free r
                    have f3 := h10.free r
                    have D2 := D1.set r (.bool true)
                    rw [bcells_set] at D2
                    have N2 : Only g10 wr ((wr.setCell ⟨g10, q, none⟩ (.bool true)).setCell ⟨g10, r, none⟩ (.bool true)) := (Only.set _ _ _ _).trans (Only.set _ _ _ _)
                    have J10 := Lib.hid D2
                    have J6 := Lib.hid (h6.only N2 n610)
                    have J8 := Lib.hid (h8.only N2 n810)
                    have JB := Lib.hid (hB.trans (N2.below.mono b10))
                    have JM := Lib.hid (show ((m2.set q true).set r true).length = 8 by simp [hm2.out])
                    clear D1 D2 N2 h6 h8 h10 hB hW K6 K8 KB
                    go_wp2
                    go_roundg f'
                    case measure => omega
                    case rel => exact ⟨r, true, _, rfl, rfl, rfl, by omega, JM, hW2, J6.out, J8.out, J10.out, JB.out⟩
            · have HS := Lib.hid (pi_skip hPk.out (.inr cx))
              have bx : (A.getD k 0 != (k : Int)) = true := by simpa using cx
              rw [cm'] at c10
              obtain ⟨x, hx⟩ : ∃ x, A.getD k 0 = x := ⟨_, rfl⟩
              rw [hx] at c6 bx cx
              clear hx
              go_wp2
              go_roundw
              case rel => exact ⟨k + 1, mt', gd', by omega, by go_num, rfl, HS, hm', h6, h8, h10, hB⟩
              case measure => simp [intOf] <;> omega
        · have hk2 : k = a.size := by omega
          subst hk2
          have e := hPk.out
          rw [HI.out] at e
          simp only [Option.some.injEq, Prod.mk.injEq] at e
          obtain ⟨rfl, rfl⟩ := e
          have l6 := h6.lt
          have l8 := h8.lt
          have l10 := h10.lt
          have i6 := Lib.hid (i8s A OA.out.1)
          have lA := Lib.hid OA.out.1
          have lB := Lib.hid OB.out.1
          have lz := Lib.hid z8l
          clear hPk HI
          go_wp2_with (first
            | (refine wpList_load_row rfl 81 _ rfl _ rfl 81 _ (0, 0) _ (hO1.only hN2 (Nat.ne_of_gt l6)) Tryd.underlying81 rfl (row8i (i8s _ (lA.out))) ?_)
            | (refine wpList_load_row rfl 81 _ rfl _ rfl 81 _ (0, 0) _ ((h8.alloc _).only hN1 (Nat.ne_of_lt l8)) Tryd.underlying81 rfl (row8i (i8s _ (lB.out))) ?_)
            | (refine wpList_load_row rfl 81 _ rfl _ rfl 81 _ (0, 0) _ (h6) Tryd.underlying81 rfl (row8i (i8s _ (lA.out))) ?_)
            | (refine wpList_store_own rfl 81 _ _ rfl _ _ rfl rfl 81 _ ((((h8.alloc _).only hN1 (Nat.ne_of_lt l8)).only hN2 n68.symm)) (row8i (i8s _ (lA.out))) (i88 lB.out lA.out) (one8i _) ?_; intro w8 hO3 hN3)
            | (refine wpList_store_own rfl 81 _ _ rfl _ _ rfl rfl 81 _ ((h6.alloc _).only hN1 (Nat.ne_of_lt l6)) (row8i (i8s _ (lB.out))) (i88 lA.out lB.out) (one8i _) ?_; intro w7 hO2 hN2)
            | (refine wpList_store_own rfl 81 _ _ rfl _ _ rfl rfl 81 _ (Own.new wr _ _) (row8i (i8s _ (lA.out))) (i88 z8l lA.out) (one8i _) ?_; intro w6 hO1 hN1))
          have N10 := (((h10.alloc (Obj.cells (icells z8) 81)).only hN1 (Nat.ne_of_lt l10)).only hN2 n106).only hN3 n108
          have B8 : Below w.heap.size w w8 := (((hB.alloc hB.size _).trans (hN1.below.mono hB.size)).trans (hN2.below.mono b6)).trans (hN3.below.mono b8)
          go_roundw
          case rel => exact ⟨j + 1, B, A, _, _, by omega, by go_num, rfl, HN, Lib.hid ⟨OB.out, OA.out, hm'.out⟩, hO2.only hN3 n68, hO3, N10, B8⟩
          case measure => simp [intOf] <;> omega
    · have hj2 : j = 2 := by omega
      subst hj2
      have e := hP.out
      rw [HP.out] at e
      simp only [Option.some.injEq, Prod.mk.injEq] at e
      obtain ⟨eA, eB, em, eg⟩ := e
      subst eA eB em eg
      clear hP HP hO hlt
      have X1 := Lib.hid h6
      have X2 := Lib.hid h8
      have X3 := Lib.hid h10
      have X4 := Lib.hid hB
      clear h6 h8 h10 hB
      go_wp2
      go_loopw [12, 19] (fun l i wx => ∃ (k : Nat) (m : List Bool) (ln : Nat), k ≤ a.size ∧ i = .int .i64 k ∧ l = .int .i64 (ln : Int) ∧ ln ≤ k ∧ Hid (pl2 A2 B2 mt2 k = some (m, ln)) ∧ Hid (m.length = 8) ∧ Own wx g6 (icells A2) 81 ∧ Own wx g8 (icells B2) 81 ∧ Own wx g10 (bcells m) 84 ∧ Below w.heap.size w wx) (fun _ i _ => (a.size - intOf i).toNat)
      case atStart => exact ⟨0, mt2, 0, by omega, rfl, rfl, by omega, Lib.hid rfl, hml, X1.out, X2.out, X3.out, X4.out⟩
      case round =>
        clear X1 X2 X3 X4
        obtain ⟨k, m, ln, hk, rfl, rfl, hln, hPk, hm, h6, h8, h10, hB⟩ := hrel
        by_cases hkl : k < a.size
        · have hkI : (k : Int) < a.size := by omega
          have k8 : k < 8 := by omega
          have c10 : wr.cell? ⟨g10, k, none⟩ = some (.bool (m.getD k true)) := by rw [h10.cell, bcells_get _ _ (by rw [hm.out]; omega)]
          by_cases cm : m.getD k true = true
          · have HS := Lib.hid (pl_skip hPk.out cm)
            rw [cm] at c10
            go_wp2
            go_roundw
            case rel => exact ⟨k + 1, m, ln, by omega, by go_num, rfl, by omega, HS, hm, h6, h8, h10, hB⟩
            case measure => simp [intOf] <;> omega
          · have cm' : m.getD k true = false := by simpa using cm
            obtain ⟨mE, hlw⟩ := pl_lw HL.out hkl hPk.out cm
            have HG := Lib.hid (pl_go hPk.out cm hlw)
            have HW := Lib.hid hlw
            rw [cm'] at c10
            have X1 := Lib.hid h6
            have X2 := Lib.hid h8
            have X3 := Lib.hid h10
            have X4 := Lib.hid hB
            clear h6 h8 h10 hB hlw hPk cm cm'
            go_wp2
            clear c10
            go_loopg [20] 9 (fun f at' wx => ∃ (q : Nat) (m2 : List Bool), at' = .int .i64 q ∧ q < 8 ∧ Hid (m2.length = 8) ∧ Hid (lw A2 B2 f q m2 = some mE) ∧ Own wx g6 (icells A2) 81 ∧ Own wx g8 (icells B2) 81 ∧ Own wx g10 (bcells m2) 84 ∧ Below w.heap.size w wx)
            case atStart => exact ⟨k, m, rfl, k8, hm, HW, X1.out, X2.out, X3.out, X4.out⟩
            case round =>
              clear X1 X2 X3 X4 HW
              obtain ⟨q, m2, rfl, q8, hm2, hW, h6, h8, h10, hB⟩ := hrel
              obtain ⟨f', hff⟩ := lw_pos hW.out
              subst hff
              have m1 : wr.cell? ⟨g10, q, none⟩ = some (.bool (m2.getD q true)) := by rw [h10.cell, bcells_get _ _ (by rw [hm2.out]; omega)]
              by_cases cq : m2.getD q true = true
              · have eM := lw_exit hW.out cq
                rw [cq] at m1
                have K10 := Lib.hid (show Own wr g10 (bcells mE) 84 by rw [eM]; exact h10)
                have KM := Lib.hid (show mE.length = 8 by rw [eM]; exact hm2.out)
                clear eM hW h10 hm2
                go_wp2
                go_roundw
                case rel => exact ⟨k + 1, mE, ln + 1, by omega, by go_num, by go_num, by omega, HG, KM, h6, h8, K10.out, hB⟩
                case measure => simp [intOf] <;> omega
              · have cq' : m2.getD q true = false := by simpa using cq
                obtain ⟨p, hpA, p8⟩ := nat_of OA.out q
                obtain ⟨r, hrB, r8⟩ := nat_of OB.out p
                have a6 : wr.cell? ⟨g6, q, none⟩ = some (.int .i64 (p : Int)) := by rw [h6.cell, icells_get _ _ (by rw [OA.out.1]; omega), hpA]
                have a8 : wr.cell? ⟨g8, p, none⟩ = some (.int .i64 (r : Int)) := by rw [h8.cell, icells_get _ _ (by rw [OB.out.1]; omega), hrB]
                have hW2 := Lib.hid (lw_next hW.out cq hpA hrB)
                rw [cq'] at m1
                have D1 := h10.set q (.bool true)
                rw [bcells_set] at D1
                have f1 := h10.free q
                have d2 : (wr.setCell ⟨g10, q, none⟩ (.bool true)).cell? ⟨g10, p, none⟩ = some (.bool ((m2.set q true).getD p true)) := by rw [D1.cell, bcells_get _ _ (by rw [List.length_set, hm2.out]; omega)]
                have d3 : wr.cell? ⟨g10, p, none⟩ = some (.bool (m2.getD p true)) := by rw [h10.cell, bcells_get _ _ (by rw [hm2.out]; omega)]
                have f2 := D1.free p
                have f3 := h10.free p
                have D2 := D1.set p (.bool true)
                rw [bcells_set] at D2
                have N2 : Only g10 wr ((wr.setCell ⟨g10, q, none⟩ (.bool true)).setCell ⟨g10, p, none⟩ (.bool true)) := (Only.set _ _ _ _).trans (Only.set _ _ _ _)
                have J10 := Lib.hid D2
                have J6 := Lib.hid (h6.only N2 n610)
                have J8 := Lib.hid (h8.only N2 n810)
                have JB := Lib.hid (hB.trans (N2.below.mono b10))
                have JM := Lib.hid (show ((m2.set q true).set p true).length = 8 by simp [hm2.out])
                clear D1 D2 N2 h6 h8 h10 hB hW cq cq' hpA hrB
                go_wp2
                go_roundg f'
                case measure => omega
                case rel => exact ⟨r, _, rfl, by omega, JM, hW2, J6.out, J8.out, J10.out, JB.out⟩
        · have hk2 : k = a.size := by omega
          subst hk2
          have e := hPk.out
          rw [HL.out] at e
          simp only [Option.some.injEq, Prod.mk.injEq] at e
          obtain ⟨e1, e2⟩ := e
          subst e2
          go_wp2
          go_ret2
          exact ⟨rfl, hB⟩
end Go.Proofs.YtopenojociafaaaDoor
namespace Go.Proofs.YtopenojociafaaaDoor
open Go.RowKit
set_option maxRecDepth 100000 in
set_option maxHeartbeats 1000000 in
theorem pairI_tt (a b h : ByteArray) (n : Int) (es1 es2 rs : List Int) (hrs : rs.length = 16) (lp ln ca cb : Int) (w : World)
    (hA : ∀ w1, Below w.heap.size w w1 → Calls Tryd.prog 52 #[.string a, .string a] w1 fun e w2 => e = .returned (.agg (dcells n es1)) ∧ Below w1.heap.size w1 w2)
    (hC : ∀ w1, Below w.heap.size w w1 → Calls Tryd.prog 52 #[.string b, .string b] w1 fun e w2 => e = .returned (.agg (dcells n es2)) ∧ Below w1.heap.size w1 w2)
    (hP : ∀ w1, Calls Tryd.prog 51 #[.agg (dcells n es1), .agg (dcells n es2)] w1 fun e w2 => e = .returned (.tuple #[.agg (dcells n rs), .int .i64 lp]) ∧ Below w1.heap.size w1 w2)
    (hF : ∀ w1, Calls Tryd.prog 54 #[.agg (dcells n rs), .int .i64 0] w1 fun e w2 => e = .returned (.string h) ∧ Below w1.heap.size w1 w2)
    (hl : ∀ w1, Calls Tryd.prog 53 #[.string h] w1 fun e w2 => e = .returned (.int .i64 ln) ∧ w2 = w1)
    (hca : ∀ w1, Calls Tryd.prog 53 #[.string a] w1 fun e w2 => e = .returned (.int .i64 ca) ∧ w2 = w1)
    (hcb : ∀ w1, Calls Tryd.prog 53 #[.string b] w1 fun e w2 => e = .returned (.int .i64 cb) ∧ w2 = w1) (hx : ln = ca) (hy : ln = cb) :
    Calls Tryd.prog 26 #[.string a, .string b] w fun e w' => e = .returned (.tuple #[.bool true, .int .i64 lp]) ∧ Below w.heap.size w w' := by
  have hA := Lib.hid hA
  have hC := Lib.hid hC
  have hP := Lib.hid hP
  have hF := Lib.hid hF
  have hl := Lib.hid hl
  have hca := Lib.hid hca
  have hcb := Lib.hid hcb
  have hh := Lib.hid hrs
  clear hrs
  subst hx
  subst hy
  go_enter Tryd.func26, Tryd.ntmps26
  go_wp2_with (first
    | (go_at_call 52; ((with_reducible refine (hC.out _ hB1).mono ?_); rintro e w2 ⟨rfl, hB2⟩; have hBy : Below w.heap.size w w2 := hB1.trans (hB2.mono hB1.size)))
    | (go_at_call 52; ((with_reducible refine (hA.out _ (Below.refl _ w)).mono ?_); rintro e w1 ⟨rfl, hB1⟩))
    | (go_at_call 51; ((with_reducible refine (hP.out _).mono ?_); rintro e w3 ⟨rfl, hB3⟩; have hBz : Below w.heap.size w w3 := hBy.trans (hB3.mono hBy.size)))
    | (refine wpList_store_own rfl 32 _ _ rfl _ _ rfl rfl 32 _ (Own.new w3 _ _) (row26 (d17 _ _ (hh.out))) (z_eq (d17 _ _ hh.out)) (dcells_one _ _) ?_; intro w4 hO4 hN4)
    | (refine wpList_load_row rfl 32 _ rfl _ rfl 32 _ (0, 0) _ (hO4) Tryd.underlying32 rfl (row26 (d17 _ _ (hh.out))) ?_)
    | (go_at_call 54; ((with_reducible refine (hF.out _).mono ?_); rintro e w5 ⟨rfl, hB5⟩))
    | (go_at_call 53; ((with_reducible refine (hl.out _).mono ?_); rintro e w6 ⟨rfl, rfl⟩))
    | (go_at_call 53; ((with_reducible refine (hca.out _).mono ?_); rintro e w7 ⟨rfl, rfl⟩))
    | (go_at_call 53; ((with_reducible refine (hcb.out _).mono ?_); rintro e w8 ⟨rfl, rfl⟩)))
  go_ret2
  have b4 : Below w.heap.size w w4 := (hBz.alloc hBz.size _).trans (hN4.below.mono hBz.size)
  refine ⟨?_, b4.trans (hB5.mono b4.size)⟩
  first
    | rfl
    | (simp [hx]; done)
    | (simp [hy]; done)
set_option maxRecDepth 100000 in
set_option maxHeartbeats 1000000 in
theorem pairI_tf (a b h : ByteArray) (n : Int) (es1 es2 rs : List Int) (hrs : rs.length = 16) (lp ln ca cb : Int) (w : World)
    (hA : ∀ w1, Below w.heap.size w w1 → Calls Tryd.prog 52 #[.string a, .string a] w1 fun e w2 => e = .returned (.agg (dcells n es1)) ∧ Below w1.heap.size w1 w2)
    (hC : ∀ w1, Below w.heap.size w w1 → Calls Tryd.prog 52 #[.string b, .string b] w1 fun e w2 => e = .returned (.agg (dcells n es2)) ∧ Below w1.heap.size w1 w2)
    (hP : ∀ w1, Calls Tryd.prog 51 #[.agg (dcells n es1), .agg (dcells n es2)] w1 fun e w2 => e = .returned (.tuple #[.agg (dcells n rs), .int .i64 lp]) ∧ Below w1.heap.size w1 w2)
    (hF : ∀ w1, Calls Tryd.prog 54 #[.agg (dcells n rs), .int .i64 0] w1 fun e w2 => e = .returned (.string h) ∧ Below w1.heap.size w1 w2)
    (hl : ∀ w1, Calls Tryd.prog 53 #[.string h] w1 fun e w2 => e = .returned (.int .i64 ln) ∧ w2 = w1)
    (hca : ∀ w1, Calls Tryd.prog 53 #[.string a] w1 fun e w2 => e = .returned (.int .i64 ca) ∧ w2 = w1)
    (hcb : ∀ w1, Calls Tryd.prog 53 #[.string b] w1 fun e w2 => e = .returned (.int .i64 cb) ∧ w2 = w1) (hx : ln = ca) (hy : ln ≠ cb) :
    Calls Tryd.prog 26 #[.string a, .string b] w fun e w' => e = .returned (.tuple #[.bool false, .int .i64 lp]) ∧ Below w.heap.size w w' := by
  have hA := Lib.hid hA
  have hC := Lib.hid hC
  have hP := Lib.hid hP
  have hF := Lib.hid hF
  have hl := Lib.hid hl
  have hca := Lib.hid hca
  have hcb := Lib.hid hcb
  have hh := Lib.hid hrs
  clear hrs
  subst hx
  go_enter Tryd.func26, Tryd.ntmps26
  go_wp2_with (first
    | (go_at_call 52; ((with_reducible refine (hC.out _ hB1).mono ?_); rintro e w2 ⟨rfl, hB2⟩; have hBy : Below w.heap.size w w2 := hB1.trans (hB2.mono hB1.size)))
    | (go_at_call 52; ((with_reducible refine (hA.out _ (Below.refl _ w)).mono ?_); rintro e w1 ⟨rfl, hB1⟩))
    | (go_at_call 51; ((with_reducible refine (hP.out _).mono ?_); rintro e w3 ⟨rfl, hB3⟩; have hBz : Below w.heap.size w w3 := hBy.trans (hB3.mono hBy.size)))
    | (refine wpList_store_own rfl 32 _ _ rfl _ _ rfl rfl 32 _ (Own.new w3 _ _) (row26 (d17 _ _ (hh.out))) (z_eq (d17 _ _ hh.out)) (dcells_one _ _) ?_; intro w4 hO4 hN4)
    | (refine wpList_load_row rfl 32 _ rfl _ rfl 32 _ (0, 0) _ (hO4) Tryd.underlying32 rfl (row26 (d17 _ _ (hh.out))) ?_)
    | (go_at_call 54; ((with_reducible refine (hF.out _).mono ?_); rintro e w5 ⟨rfl, hB5⟩))
    | (go_at_call 53; ((with_reducible refine (hl.out _).mono ?_); rintro e w6 ⟨rfl, rfl⟩))
    | (go_at_call 53; ((with_reducible refine (hca.out _).mono ?_); rintro e w7 ⟨rfl, rfl⟩))
    | (go_at_call 53; ((with_reducible refine (hcb.out _).mono ?_); rintro e w8 ⟨rfl, rfl⟩)))
  go_ret2
  have b4 : Below w.heap.size w w4 := (hBz.alloc hBz.size _).trans (hN4.below.mono hBz.size)
  refine ⟨?_, b4.trans (hB5.mono b4.size)⟩
  first
    | rfl
    | (simp [hx]; done)
    | (simp [hy]; done)
set_option maxRecDepth 100000 in
set_option maxHeartbeats 1000000 in
theorem pairI_f (a b h : ByteArray) (n : Int) (es1 es2 rs : List Int) (hrs : rs.length = 16) (lp ln ca cb : Int) (w : World)
    (hA : ∀ w1, Below w.heap.size w w1 → Calls Tryd.prog 52 #[.string a, .string a] w1 fun e w2 => e = .returned (.agg (dcells n es1)) ∧ Below w1.heap.size w1 w2)
    (hC : ∀ w1, Below w.heap.size w w1 → Calls Tryd.prog 52 #[.string b, .string b] w1 fun e w2 => e = .returned (.agg (dcells n es2)) ∧ Below w1.heap.size w1 w2)
    (hP : ∀ w1, Calls Tryd.prog 51 #[.agg (dcells n es1), .agg (dcells n es2)] w1 fun e w2 => e = .returned (.tuple #[.agg (dcells n rs), .int .i64 lp]) ∧ Below w1.heap.size w1 w2)
    (hF : ∀ w1, Calls Tryd.prog 54 #[.agg (dcells n rs), .int .i64 0] w1 fun e w2 => e = .returned (.string h) ∧ Below w1.heap.size w1 w2)
    (hl : ∀ w1, Calls Tryd.prog 53 #[.string h] w1 fun e w2 => e = .returned (.int .i64 ln) ∧ w2 = w1)
    (hca : ∀ w1, Calls Tryd.prog 53 #[.string a] w1 fun e w2 => e = .returned (.int .i64 ca) ∧ w2 = w1)
    (hcb : ∀ w1, Calls Tryd.prog 53 #[.string b] w1 fun e w2 => e = .returned (.int .i64 cb) ∧ w2 = w1) (hx : ln ≠ ca) :
    Calls Tryd.prog 26 #[.string a, .string b] w fun e w' => e = .returned (.tuple #[.bool false, .int .i64 lp]) ∧ Below w.heap.size w w' := by
  have hA := Lib.hid hA
  have hC := Lib.hid hC
  have hP := Lib.hid hP
  have hF := Lib.hid hF
  have hl := Lib.hid hl
  have hca := Lib.hid hca
  have hcb := Lib.hid hcb
  have hh := Lib.hid hrs
  clear hrs
  go_enter Tryd.func26, Tryd.ntmps26
  go_wp2_with (first
    | (go_at_call 52; ((with_reducible refine (hC.out _ hB1).mono ?_); rintro e w2 ⟨rfl, hB2⟩; have hBy : Below w.heap.size w w2 := hB1.trans (hB2.mono hB1.size)))
    | (go_at_call 52; ((with_reducible refine (hA.out _ (Below.refl _ w)).mono ?_); rintro e w1 ⟨rfl, hB1⟩))
    | (go_at_call 51; ((with_reducible refine (hP.out _).mono ?_); rintro e w3 ⟨rfl, hB3⟩; have hBz : Below w.heap.size w w3 := hBy.trans (hB3.mono hBy.size)))
    | (refine wpList_store_own rfl 32 _ _ rfl _ _ rfl rfl 32 _ (Own.new w3 _ _) (row26 (d17 _ _ (hh.out))) (z_eq (d17 _ _ hh.out)) (dcells_one _ _) ?_; intro w4 hO4 hN4)
    | (refine wpList_load_row rfl 32 _ rfl _ rfl 32 _ (0, 0) _ (hO4) Tryd.underlying32 rfl (row26 (d17 _ _ (hh.out))) ?_)
    | (go_at_call 54; ((with_reducible refine (hF.out _).mono ?_); rintro e w5 ⟨rfl, hB5⟩))
    | (go_at_call 53; ((with_reducible refine (hl.out _).mono ?_); rintro e w6 ⟨rfl, rfl⟩))
    | (go_at_call 53; ((with_reducible refine (hca.out _).mono ?_); rintro e w7 ⟨rfl, rfl⟩))
    | (go_at_call 53; ((with_reducible refine (hcb.out _).mono ?_); rintro e w8 ⟨rfl, rfl⟩)))
  go_ret2
  have b4 : Below w.heap.size w w4 := (hBz.alloc hBz.size _).trans (hN4.below.mono hBz.size)
  refine ⟨?_, b4.trans (hB5.mono b4.size)⟩
  first
    | rfl
    | (simp [hx]; done)
    | (simp [hy]; done)
end Go.Proofs.YtopenojociafaaaDoor
namespace Go.Proofs.YtopenojociafaaaDoor
open Go.RowKit
open LoopM
theorem okPs_app {n : Nat} {L M N : List (List UInt8)} (h : okPs n L N = true) (h' : okPs n M N = true) : okPs n (L ++ M) N = true := by
  unfold okPs at *
  rw [List.all_append, h, h']; rfl
theorem okP_HH (n : Nat) (h1 : 1 ≤ n) (h8 : n ≤ 8) : okPs n (HH n) (HH n) = true := by
  have hc : n = 1 ∨ n = 2 ∨ n = 3 ∨ n = 4 ∨ n = 5 ∨ n = 6 ∨ n = 7 ∨ n = 8 := by omega
  rcases hc with rfl | rfl | rfl | rfl | rfl | rfl | rfl | rfl
  · exact okp_1
  · exact okp_2
  · exact okp_3
  · exact okp_4
  · exact okp_5
  · exact okp_6
  · exact okp_7
  · exact okPs_app (okPs_app (okPs_app (okPs_app okp8_0 okp8_1) okp8_2) okp8_3) okp8_4
theorem okP_all {a b : List UInt8} {o1 o2 : List Int} (h1 : arcO a = some o1) (h2 : arcO b = some o2) (hl : a.length = b.length) :
    ∃ A B m gd mL L, psd a.length o1 o2 2 = some (A, B, m, gd) ∧ pl2 A B m a.length = some (mL, L) ∧
      gd = (decide (lnP a.length (dmS a.length o1 o1) (dmS a.length o2 o2) = a.count 124) && decide (lnP a.length (dmS a.length o1 o1) (dmS a.length o2 o2) = b.count 124)) ∧
      (L : Int) = loopsP a.length (mate (dmS a.length o1 o1)) (mate (dmS a.length o2 o2)) := by
  obtain ⟨_, n1, n8⟩ := arc_O8 h1
  have ma := mem_HH h1
  have mb := mem_HH h2
  rw [← hl] at mb
  have hk := okP_of (List.all_eq_true.1 (List.all_eq_true.1 (okP_HH a.length n1 n8) a ma) b mb) h1 h2
  unfold pairC at hk
  cases hp : psd a.length o1 o2 2 with
  | none => rw [hp] at hk; cases hk
  | some q =>
    obtain ⟨A, B, m, gd⟩ := q
    rw [hp] at hk
    simp only at hk
    cases hq : pl2 A B m a.length with
    | none => rw [hq] at hk; cases hk
    | some r =>
      obtain ⟨mL, L⟩ := r
      rw [hq] at hk
      simp only [Bool.and_eq_true, beq_iff_eq, decide_eq_true_eq] at hk
      refine ⟨A, B, m, gd, mL, L, rfl, hq, hk.1, ?_⟩
      rw [hk.2]
      unfold loopsP
      rw [Int.toNat_natCast]
theorem lnP_eq (n : Nat) (es1 es2 : List Int) (h8 : n ≤ 8) : lnP n es1 es2 = (upo n (prodL n (mate es1) (mate es2)) n).length := by
  unfold lnP upo
  congr 1
  apply List.filter_congr
  intro j hj
  rw [List.mem_range] at hj
  rw [prodL_get (by omega), if_pos (by omega)]
theorem some_of3 {l : List UInt8} (h : isHf l = true) : ∃ o, arcO l = some o := by
  unfold isHf at h
  cases hq : arcO l with
  | none => rw [hq] at h; cases h
  | some o => exact ⟨o, rfl⟩
theorem loops_bd (n : Int) (d e : Int → Int) (h1 : 1 ≤ n) (h8 : n ≤ 8) : 0 ≤ loopsP n d e ∧ loopsP n d e ≤ 8 := by
  have := lps_bd e (vD n d) (metA n d e) n.toNat
  unfold loopsP; omega
theorem pair_in (a b : ByteArray) (m : Int) (ha : a.size ≤ 1048576) (hb : b.size ≤ 1048576) (hs : b.size = a.size) (o1 o2 : List Int) (e1 : arcO a.data.toList = some o1) (e2 : arcO b.data.toList = some o2) :
    ∃ (gd : Bool) (L : Nat), L ≤ 1000 ∧ (∀ w1, Calls Tryd.prog 44 #[.string a, .string b] w1 fun e w2 => e = .returned (.tuple #[.bool gd, .int .i64 (L : Int)]) ∧ Below w1.heap.size w1 w2) ∧
      (∀ w1, Ml w1 m → Calls Tryd.prog 26 #[.string a, .string b] w1 fun e w2 => e = .returned (.tuple #[.bool gd, .int .i64 (L : Int)]) ∧ Below w1.heap.size w1 w2) := by
  have la : a.data.toList.length = a.size := by rw [Array.length_toList]; rfl
  have lb : b.data.toList.length = a.size := by rw [Array.length_toList]; exact hs
  obtain ⟨es1, q0, q1, q2, q3, q4, q5, q6⟩ := self_hd e1
  obtain ⟨es2, r0, r1, r2, r3, r4, r5, r6⟩ := self_hd e2
  obtain ⟨A, B, mt, gd, mL, L, p1, p2, p3, p4⟩ := okP_all e1 e2 (by rw [la, lb])
  rw [la] at q0 q1 q3 p1 p2 p3 p4
  rw [lb] at r0 r1 r3
  rw [q0, r0] at p3 p4
  have n18 := arc_O8 e1
  rw [la] at n18
  obtain ⟨_, n1, n8⟩ := n18
  rw [lnP_eq _ _ _ n8] at p3
  have hpd := prodD2 a.size es1 es2 q2 r2 q3 r3
  have hch := cnt_half a.size (prodL a.size (mate es1) (mate es2)) hpd.1
  have hIP := fun w1 => prodI_any a.size es1 es2 q4 r4 q2 r2 q3 r3 w1
  have hrl := prodL_len a.size (mate es1) (mate es2)
  rw [← p4] at hIP
  have hIF := fun w1 => halfI_any a.size 0 (prodL a.size (mate es1) (mate es2)) hrl hpd.1 w1 (by omega) (by omega) (.inl rfl)
  have IHA : ∀ w1, Ml w1 m → Calls Tryd.prog 52 #[.string a, .string a] w1 fun e w2 => e = .returned (.agg (dcells a.size es1)) ∧ Below w1.heap.size w1 w2 := fun w1 h => hdI_any a a m w1 h ha ha _ _ q1
  have IHB : ∀ w1, Ml w1 m → Calls Tryd.prog 52 #[.string b, .string b] w1 fun e w2 => e = .returned (.agg (dcells a.size es2)) ∧ Below w1.heap.size w1 w2 := fun w1 h => hdI_any b b m w1 h hb hb _ _ r1
  have SP : ∀ w1, Calls Tryd.prog 44 #[.string a, .string b] w1 fun e w2 => e = .returned (.tuple #[.bool gd, .int .i64 (L : Int)]) ∧ Below w1.heap.size w1 w2 := fun w1 => pairS_any a b hs o1 o2 e1 e2 A B mt gd p1 mL L p2 w1
  have IP : ∀ w1, Ml w1 m → Calls Tryd.prog 26 #[.string a, .string b] w1 fun e w2 => e = .returned (.tuple #[.bool gd, .int .i64 (L : Int)]) ∧ Below w1.heap.size w1 w2 := fun w1 hml => by
    by_cases cx : (upo a.size (prodL a.size (mate es1) (mate es2)) a.size).length = a.data.toList.count 124
    · by_cases cy : (upo a.size (prodL a.size (mate es1) (mate es2)) a.size).length = b.data.toList.count 124
      · have eg : gd = true := by rw [p3, decide_eq_true cx, decide_eq_true cy]; rfl
        rw [eg]
        exact pairI_tt a b _ _ es1 es2 _ hrl _ _ _ _ w1 (fun w3 h3 => IHA w3 (hml.below h3 hml.lt)) (fun w3 h3 => IHB w3 (hml.below h3 hml.lt)) hIP hIF (fun w3 => cntI_any _ w3) (fun w3 => cntI_any a w3) (fun w3 => cntI_any b w3) (by rw [hch]; unfold cnt; omega) (by rw [hch]; unfold cnt; omega)
      · have eg : gd = false := by rw [p3, decide_eq_false cy, Bool.and_false]
        rw [eg]
        exact pairI_tf a b _ _ es1 es2 _ hrl _ _ _ _ w1 (fun w3 h3 => IHA w3 (hml.below h3 hml.lt)) (fun w3 h3 => IHB w3 (hml.below h3 hml.lt)) hIP hIF (fun w3 => cntI_any _ w3) (fun w3 => cntI_any a w3) (fun w3 => cntI_any b w3) (by rw [hch]; unfold cnt; omega) (by rw [hch]; unfold cnt; omega)
    · have eg : gd = false := by rw [p3, decide_eq_false cx, Bool.false_and]
      rw [eg]
      exact pairI_f a b _ _ es1 es2 _ hrl _ _ _ _ w1 (fun w3 h3 => IHA w3 (hml.below h3 hml.lt)) (fun w3 h3 => IHB w3 (hml.below h3 hml.lt)) hIP hIF (fun w3 => cntI_any _ w3) (fun w3 => cntI_any a w3) (fun w3 => cntI_any b w3) (by rw [hch]; unfold cnt; omega)
  have hld := loops_bd a.size (mate es1) (mate es2) (by omega) (by omega)
  exact ⟨gd, L, by omega, SP, IP⟩
end Go.Proofs.YtopenojociafaaaDoor
namespace Go.Proofs.YtopenojociafaaaDoor
open Go.RowKit
set_option linter.unusedVariables false
set_option linter.unusedSimpArgs false
theorem allH_len6 (n k : Nat) (h1 : 1 ≤ n) (h6 : n ≤ 6) (hk : k ≤ n) (he : (n - k) % 2 = 0) : 1 ≤ (allH n k).length ∧ (allH n k).length ≤ 200 := by
  have h : n = 1 ∨ n = 2 ∨ n = 3 ∨ n = 4 ∨ n = 5 ∨ n = 6 := by omega
  have h2 : k = 0 ∨ k = 1 ∨ k = 2 ∨ k = 3 ∨ k = 4 ∨ k = 5 ∨ k = 6 := by omega
  rcases h with rfl | rfl | rfl | rfl | rfl | rfl <;> rcases h2 with rfl | rfl | rfl | rfl | rfl | rfl | rfl <;> first | (exfalso; omega) | decide +kernel
theorem allH_arc (n k : Nat) (h1 : 1 ≤ n) (h8 : n ≤ 8) (hk : k ≤ n) (he : (n - k) % 2 = 0) (i : Nat) (hi : i < (allH n k).length) : ((allH n k).getD i []).length = n ∧ ∃ o, arcO ((allH n k).getD i []) = some o := by
  have hm : (allH n k).getD i [] ∈ allH n k := by
    rw [List.getD_eq_getElem?_getD, List.getElem?_eq_getElem hi]
    exact List.getElem_mem hi
  generalize (allH n k).getD i [] = t at *
  rw [← tx3_all n k h1 h8 hk he, List.mem_filter] at hm
  obtain ⟨ht, ho⟩ := hm
  unfold okH at ho
  rw [Bool.and_eq_true] at ho
  refine ⟨?_, Option.isSome_iff_exists.1 ho.1⟩
  obtain ⟨q, hq, hqe⟩ := List.getElem_of_mem ht
  have := tx3_txt n q hq
  rw [List.getD_eq_getElem?_getD, List.getElem?_eq_getElem hq, Option.getD_some, hqe] at this
  exact this
theorem gV_bd (p c : Int) (p2 : 2 ≤ p) (gd : Nat → Nat → Bool) (lp : Nat → Nat → Nat) (i j : Nat) : 0 ≤ gV p c gd lp i j ∧ gV p c gd lp i j < p := by
  unfold gV
  split
  · exact pw_range p c p2 _
  · omega
def gT (p c : Int) (gd : Nat → Nat → Bool) (lp : Nat → Nat → Nat) (M : Nat) : List (List Int) := (List.range M).map (fun i => gL p c gd lp M i M)
theorem gT_len (p c : Int) (gd : Nat → Nat → Bool) (lp : Nat → Nat → Nat) (M : Nat) : (gT p c gd lp M).length = M := by simp [gT]
theorem gT_ok (p c : Int) (p2 : 2 ≤ p) (gd : Nat → Nat → Bool) (lp : Nat → Nat → Nat) (M : Nat) : RowsP p M (gT p c gd lp M) := by
  have hrow : ∀ i, i < M → rw' (gT p c gd lp M) i = gL p c gd lp M i M := fun i hi => by simp [rw', gT, List.getD_eq_getElem?_getD, hi]
  refine ⟨fun i hi => ?_, fun i j hi hj => ?_, fun i j _ hj => by omega⟩
  · rw [gT_len] at hi
    rw [hrow i hi, gL_len]
  · rw [gT_len] at hi
    rw [hrow i hi, gL_get _ _ _ _ _ _ _ _ hj, if_pos hj]
    exact gV_bd p c p2 gd lp i j
def modC (p c : Int) : Bool := primeB p && decide (0 ≤ c ∧ c < p)
/-- What pairs of half diagrams give, once for both. -/
theorem pairs_ex (n k : Nat) (h1 : 1 ≤ n) (h6 : n ≤ 6) (hk : k ≤ n) (he : (n - k) % 2 = 0) (m : Int) :
    ∃ (gd : Nat → Nat → Bool) (lp : Nat → Nat → Nat), ∀ i j, i < (allH n k).length → j < (allH n k).length → lp i j ≤ 1000 ∧
      (∀ w1, Calls Tryd.prog 44 #[.string ((bsl (allH n k)).getD i ByteArray.empty), .string ((bsl (allH n k)).getD j ByteArray.empty)] w1 fun e w2 => e = .returned (.tuple #[.bool (gd i j), .int .i64 (lp i j : Nat)]) ∧ Below w1.heap.size w1 w2) ∧
      (∀ w1, Ml w1 m → Calls Tryd.prog 26 #[.string ((bsl (allH n k)).getD i ByteArray.empty), .string ((bsl (allH n k)).getD j ByteArray.empty)] w1 fun e w2 => e = .returned (.tuple #[.bool (gd i j), .int .i64 (lp i j : Nat)]) ∧ Below w1.heap.size w1 w2) := by
  have H : ∀ i j, ∃ q : Bool × Nat, i < (allH n k).length → j < (allH n k).length → q.2 ≤ 1000 ∧
      (∀ w1, Calls Tryd.prog 44 #[.string ((bsl (allH n k)).getD i ByteArray.empty), .string ((bsl (allH n k)).getD j ByteArray.empty)] w1 fun e w2 => e = .returned (.tuple #[.bool q.1, .int .i64 (q.2 : Nat)]) ∧ Below w1.heap.size w1 w2) ∧
      (∀ w1, Ml w1 m → Calls Tryd.prog 26 #[.string ((bsl (allH n k)).getD i ByteArray.empty), .string ((bsl (allH n k)).getD j ByteArray.empty)] w1 fun e w2 => e = .returned (.tuple #[.bool q.1, .int .i64 (q.2 : Nat)]) ∧ Below w1.heap.size w1 w2) := fun i j => by
    by_cases hi : i < (allH n k).length
    · by_cases hj : j < (allH n k).length
      · obtain ⟨l1, o1, e1⟩ := allH_arc n k h1 (by omega) hk he i hi
        obtain ⟨l2, o2, e2⟩ := allH_arc n k h1 (by omega) hk he j hj
        rw [bsl_getB _ _ hi, bsl_getB _ _ hj]
        generalize (allH n k).getD i [] = a at *
        generalize (allH n k).getD j [] = b at *
        obtain ⟨gd, L, q1, q2, q3⟩ := pair_in (bsv a) (bsv b) m (by rw [bsv_size]; omega) (by rw [bsv_size]; omega) (by rw [bsv_size, bsv_size, l1, l2]) o1 o2 (by rw [show (bsv a).data.toList = a from by simp [bsv]]; exact e1) (by rw [show (bsv b).data.toList = b from by simp [bsv]]; exact e2)
        exact ⟨(gd, L), fun _ _ => ⟨q1, q2, q3⟩⟩
      · exact ⟨(false, 0), fun _ h => absurd h hj⟩
    · exact ⟨(false, 0), fun h => absurd h hi⟩
  refine ⟨fun i j => (Classical.choose (H i j)).1, fun i j => (Classical.choose (H i j)).2, fun i j hi hj => ?_⟩
  exact Classical.choose_spec (H i j) hi hj
theorem twoS_t (p c : Int) (n k : Int) (hp : modC p c = true) (hc : CellOk n k 6) (hr : -9223372036854775808 ≤ p ∧ p ≤ 9223372036854775807) (w : World) : Calls Tryd.prog 19 #[.int .i64 p, .int .i64 c, .int .i64 n, .int .i64 k] w fun e w' => e = .returned (.bool true) ∧ w = w' := by
  have h1 := Lib.hid (fun w => (numS_any p c w hr).mono fun e w' h => (show e = .returned (.bool true) ∧ w = w' from ⟨by rw [h.1]; unfold modC at hp; rw [hp], h.2.symm⟩))
  have h2 := Lib.hid (fun w => rangeS_t n k 6 w hc (by omega))
  clear hp hc
  go_enter Tryd.func19, Tryd.ntmps19
  go_wp2_with (first
    | (go_at_call 41; ((with_reducible refine (h1.out _).mono ?_); rintro e w0 ⟨rfl, rfl⟩))
    | (go_at_call 42; ((with_reducible refine (h2.out _).mono ?_); rintro e w0 ⟨rfl, rfl⟩)))
  go_ret
  exact ⟨rfl, rfl⟩
theorem twoS_f (p c : Int) (n k : Int) (h : ¬ (modC p c = true ∧ CellOk n k 6)) (hr : -9223372036854775808 ≤ p ∧ p ≤ 9223372036854775807) (w : World) : Calls Tryd.prog 19 #[.int .i64 p, .int .i64 c, .int .i64 n, .int .i64 k] w fun e w' => e = .returned (.bool false) ∧ w = w' := by
  cases hp : modC p c with
  | false =>
    have h1 := Lib.hid (fun w => (numS_any p c w hr).mono fun e w' h => (show e = .returned (.bool false) ∧ w = w' from ⟨by rw [h.1]; unfold modC at hp; rw [hp], h.2.symm⟩))
    clear hp h
    go_enter Tryd.func19, Tryd.ntmps19
    go_wp2_with (first
      | (go_at_call 41; ((with_reducible refine (h1.out _).mono ?_); rintro e w0 ⟨rfl, rfl⟩)))
    go_ret
    exact ⟨rfl, rfl⟩
  | true =>
    have h1 := Lib.hid (fun w => (numS_any p c w hr).mono fun e w' h => (show e = .returned (.bool true) ∧ w = w' from ⟨by rw [h.1]; unfold modC at hp; rw [hp], h.2.symm⟩))
    have h2 := Lib.hid (fun w => rangeS_f n k 6 w (fun hc => h ⟨hp, hc⟩) (by omega))
    clear hp h
    go_enter Tryd.func19, Tryd.ntmps19
    go_wp2_with (first
      | (go_at_call 41; ((with_reducible refine (h1.out _).mono ?_); rintro e w0 ⟨rfl, rfl⟩))
      | (go_at_call 42; ((with_reducible refine (h2.out _).mono ?_); rintro e w0 ⟨rfl, rfl⟩)))
    go_ret
    exact ⟨rfl, rfl⟩
theorem gramI_bad (p c : Int) (n k : Int) (h : ¬ (modC p c = true ∧ CellOk n k 6)) (hk : -9223372036854775808 ≤ k ∧ k ≤ 9223372036854775807) (w : World) : Calls Tryd.prog 8 #[.int .i64 p, .int .i64 c, .int .i64 n, .int .i64 k] w fun e w' => e = .returned (.tuple #[.slice none 0 0, .int .i64 2]) ∧ Below w.heap.size w w' := by
  cases hp : modC p c with
  | false =>
    have hmd := Lib.hid (fun w => (modI_any p c w).mono fun e w' h => (show e = .returned (.bool false) ∧ w = w' from ⟨by rw [h.1]; unfold modC at hp; rw [hp], h.2.symm⟩))
    clear hp h
    go_enter Tryd.func8, Tryd.ntmps8
    go_wp2_with (first
      | (go_at_call 21; ((with_reducible refine (hmd.out _).mono ?_); rintro e w0 ⟨rfl, rfl⟩)))
    go_ret2
    exact ⟨rfl, Below.refl _ _⟩
  | true =>
    have hmd := Lib.hid (fun w => (modI_any p c w).mono fun e w' h => (show e = .returned (.bool true) ∧ w = w' from ⟨by rw [h.1]; unfold modC at hp; rw [hp], h.2.symm⟩))
    by_cases h6 : 6 < n
    · clear hp h
      go_enter Tryd.func8, Tryd.ntmps8
      go_wp2_with (first
        | (go_at_call 21; ((with_reducible refine (hmd.out _).mono ?_); rintro e w0 ⟨rfl, rfl⟩)))
      go_ret2
      exact ⟨rfl, Below.refl _ _⟩
    · have hC := Lib.hid (fun w => cellI_f n k w (fun hc => h ⟨hp, ⟨hc.1.1, by omega⟩, hc.2⟩) hk)
      clear hp h
      go_enter Tryd.func8, Tryd.ntmps8
      go_wp2_with (first
        | (go_at_call 21; ((with_reducible refine (hmd.out _).mono ?_); rintro e w0 ⟨rfl, rfl⟩))
        | (go_at_call 22; ((with_reducible refine (hC.out _).mono ?_); rintro e w0 ⟨rfl, rfl⟩)))
      go_ret2
      exact ⟨rfl, Below.refl _ _⟩
end Go.Proofs.YtopenojociafaaaDoor
namespace Go.Proofs.YtopenojociafaaaDoor
open Go.RowKit Go.BigFrame
set_option linter.unusedVariables false
set_option linter.unusedSimpArgs false
theorem Own.neTa {w : World} {b b' : Nat} {cs cs' : Array Value} {t t' : TypeId} (h : Own w b cs t) (h' : Own w b' cs' t') (ht : t ≠ t') : b ≠ b' := by
  rintro rfl
  have : some (Obj.cells cs t (0, 0)) = some (Obj.cells cs' t' (0, 0)) := (show w.heap[b]? = _ from h).symm.trans h'
  simp at this
  exact ht this.2
/-- The rows of a table of n times n numbers, to be read. -/
def TRd (w : World) (gt n : Nat) (R : Nat → List Int) : Prop := ∀ i, i < n → ∃ a c, w.cell? ⟨gt, i, none⟩ = some (.slice (some a) n c) ∧ Rd w (some a) (R i)
theorem TRd.below {w w' : World} {gt n : Nat} {R : Nat → List Int} (h : TRd w gt n R) (hb : Below w.heap.size w w') : TRd w' gt n R := fun i hi => by
  obtain ⟨a, c, q1, q2⟩ := h i hi
  exact ⟨a, c, by rw [hb.cell (p := ⟨gt, i, none⟩) (block_lt_of_cell q1)]; exact q1, q2.below hb⟩
set_option maxRecDepth 100000 in
set_option maxHeartbeats 1000000 in
theorem eqTT (gt gt' n ct ct' : Nat) (R : Nat → List Int) (hl : ∀ i, (R i).length = n) (hn : n ≤ 1000) (w : World) (hR : TRd w gt n R) (hQ : TRd w gt' n R) :
    Calls Tryd.prog 9 #[.slice (some ⟨gt, 0, none⟩) n ct, .slice (some ⟨gt', 0, none⟩) n ct'] w fun e w' => e = .returned (.bool true) ∧ Below w.heap.size w w' := by
  have HR := Lib.hid hR
  have HQ := Lib.hid hQ
  have HL := Lib.hid hl
  clear hR hQ hl
  go_enter Tryd.func9, Tryd.ntmps9
  go_wp2
  go_loopw [5] (fun i wr => ∃ k : Nat, k ≤ n ∧ i = .int .i64 k ∧ Below w.heap.size w wr) (fun i _ => ((n : Int) - intOf i).toNat)
  case atStart => exact ⟨0, by omega, rfl, Below.refl _ _⟩
  case round =>
    obtain ⟨k, hk, rfl, hB⟩ := hrel
    by_cases hlt : k < n
    · obtain ⟨a, c, q1, q2⟩ := (HR.out.below hB) k hlt
      obtain ⟨a', c', q3, q4⟩ := (HQ.out.below hB) k hlt
      have i1 : (k : Int) < (n : Int) := by omega
      have x0 := fun d os => cell_regrown q1 d os
      have x1 := fun d os => cell_regrown q3 d os
      have ci : ∀ d os, Calls Tryd.prog 28 #[.slice (some a) n c, .slice (some a') n c'] (Sort.grow (redrawn wr d) os) fun e w'' => e = .returned (.bool true) ∧ ∃ p : Regrown, w'' = Sort.grow (redrawn wr p.d) p.os := fun d os => Calls.regrown_of (by
        have := eqI_same (some a) (some a') c c' (R k) (by rw [HL.out]; omega) (Sort.grow (redrawn wr d) os) (q2.below (below_regrown wr d os)) (q4.below (below_regrown wr d os))
        rw [HL.out] at this; exact this)
      clear q1 q2 q3 q4
      go_wp2
      refine wp_region_quiet_below (by kernel_rfl) (by kernel_rfl) ?_
      iterate 10 (go_big_quiet_step (first | exact ci _ _))
      refine wpQuiet_nil ?_
      intro _ hw'
      obtain ⟨⟨dq, osq⟩, hw''⟩ := hw'
      subst hw''
      have b3 := hB.trans ((below_regrown wr dq osq).mono hB.size)
      go_wp2
      go_roundw
      case rel => exact ⟨k + 1, by omega, by go_num, b3⟩
      case measure => simp [intOf]; omega
    · have e : k = n := by omega
      subst e
      go_wp2
      go_ret
      exact ⟨rfl, hB⟩
/-- The numbers from A on, j of them, are marks from k on. -/
def MkO (ns ns' : List Int) (A : Nat) (k : Int) (j : Nat) : Prop := ns'.length = ns.length ∧ ∀ t, ns'.getD t 0 = if A ≤ t ∧ t < A + j then k + ((t : Int) - A) else ns.getD t 0
theorem MkO.step {ns ns' : List Int} {A : Nat} {k : Int} {j : Nat} (h : MkO ns ns' A k j) (hl : A + j < ns.length) : MkO ns (ns'.set (A + j) (k + j)) A k (j + 1) := by
  refine ⟨by rw [List.length_set, h.1], fun t => ?_⟩
  by_cases e : A + j = t
  · subst e
    rw [List.getD_eq_getElem?_getD, List.getElem?_set_self (by rw [h.1]; exact hl), if_pos (by omega)]
    simp only [Option.getD_some]; omega
  · rw [List.getD_eq_getElem?_getD, List.getElem?_set_ne e, ← List.getD_eq_getElem?_getD, h.2 t]
    by_cases e2 : A ≤ t ∧ t < A + j
    · rw [if_pos e2, if_pos (by omega)]
    · rw [if_neg e2, if_neg (by omega)]
set_option maxRecDepth 100000 in
set_option maxHeartbeats 1000000 in
theorem markO (g A n cap : Nat) (ns : List Int) (hl : A + n ≤ ns.length) (hn : n ≤ 1000) (k : Int) (k0 : 0 ≤ k) (k2 : k ≤ 4194304) (w : World) (hO : Own w g (icells ns) 2) :
    Calls Tryd.prog 29 #[.slice (some ⟨g, A, none⟩) n cap, .int .i64 k] w fun e w' => e = .returned (.int .i64 (k + n)) ∧ ∃ ns', MkO ns ns' A k n ∧ Own w' g (icells ns') 2 ∧ Only g w w' := by
  have HL := Lib.hid hl
  clear hl
  go_enter Tryd.func29, Tryd.ntmps29
  go_wp2
  go_loopw [1, 5] (fun q i wr => ∃ (j : Nat) (ns' : List Int), j ≤ n ∧ i = .int .i64 j ∧ q = .int .i64 (k + j) ∧ Hid (MkO ns ns' A k j) ∧ Own wr g (icells ns') 2 ∧ Only g w wr) (fun _ i _ => ((n : Int) - intOf i).toNat)
  case atStart => exact ⟨0, ns, by omega, rfl, by simp, Lib.hid ⟨rfl, fun t => by rw [if_neg (by omega)]⟩, hO, Only.refl _ _⟩
  case round =>
    clear hO
    obtain ⟨j, ns', hj, rfl, rfl, hM, hO, hBB⟩ := hrel
    by_cases hlt : j < n
    · have hks : A + j < ns.length := by have := HL.out; omega
      have c2 := hO.cell (A + j)
      rw [icells_get _ _ (by rw [hM.out.1]; exact hks)] at c2
      have f2 := hO.free (A + j)
      have hO2 := hO.set (A + j) (.int .i64 (k + j))
      rw [icells_set] at hO2
      have K1 := Lib.hid hO2
      have K2 := Lib.hid (hBB.trans (Only.set g (A + j) _ (.int .i64 (k + j))))
      have hM2 := Lib.hid (hM.out.step hks)
      have i1 : (j : Int) < (n : Int) := by omega
      clear hO2 hO hBB hM
      go_wp2
      go_roundw
      case rel => exact ⟨j + 1, _, by omega, by go_num, by go_num, hM2, K1.out, K2.out⟩
      case measure => simp [intOf]; omega
    · have e : j = n := by omega
      subst e
      go_wp2
      go_ret
      exact ⟨rfl, ns', hM.out, hO, hBB⟩
/-- A table whose rows lie in the block g1. -/
structure PT (w : World) (B g1 g2 n : Nat) (cs : Array Value) (ns : List Int) : Prop where
  b1 : B ≤ g1
  b2 : B ≤ g2
  o1 : Own w g1 (icells ns) 2
  o2 : Own w g2 cs 48
  rof : Rof cs g1 n n
  len : n * n ≤ ns.length
theorem PT.below {w w' : World} {B g1 g2 n : Nat} {cs : Array Value} {ns : List Int} (h : PT w B g1 g2 n cs ns) (hb : Below w.heap.size w w') : PT w' B g1 g2 n cs ns :=
  ⟨h.b1, h.b2, h.o1.below hb h.o1.lt, h.o2.below hb h.o2.lt, h.rof, h.len⟩
theorem PT.trd {w : World} {B g1 g2 n : Nat} {cs : Array Value} {ns : List Int} (h : PT w B g1 g2 n cs ns) (R : Nat → List Int) (hl : ∀ i, (R i).length = n) (hR : ∀ i j, i < n → j < n → ns.getD (i * n + j) 0 = (R i).getD j 0) : TRd w g2 n R := fun i hi => by
  refine ⟨⟨g1, i * n, none⟩, n, by rw [h.o2.cell]; exact h.rof.2 i hi, fun a e j hj => ?_, fun e => by cases e⟩
  cases e
  rw [hl] at hj
  have hin : i * n + j < ns.length := by
    have h0 := h.len
    have := Nat.mul_le_mul_right n (show i + 1 ≤ n by omega)
    rw [Nat.succ_mul] at this; omega
  rw [show (⟨g1, i * n, none⟩ : Addr).add j = ⟨g1, i * n + j, none⟩ by rw [Addr.add_mid], h.o1.cell, icells_get _ _ hin, hR i j hi hj]
/-- The marks of the row i. -/
def mkR (n : Nat) (i : Nat) : List Int := marksI (1 + ((i * n : Nat) : Int)) n
set_option maxRecDepth 100000 in
set_option maxHeartbeats 1000000 in
theorem markTT (B g1 g2 n : Nat) (cs : Array Value) (ns : List Int) (hn : n ≤ 200) (P : Nat) (hP : n * n = P) (hP2 : P ≤ 100000) (w : World) (h : PT w B g1 g2 n cs ns) :
    Calls Tryd.prog 10 #[.slice (some ⟨g2, 0, none⟩) n n, .int .i64 1] w fun e w' => e = .returned (.int .i64 (1 + (P : Int))) ∧ (∃ ns', PT w' B g1 g2 n cs ns' ∧ ∀ i j, i < n → j < n → ns'.getD (i * n + j) 0 = (mkR n i).getD j 0) ∧ Below B w w' := by
  have HH := Lib.hid h
  have HP := Lib.hid hP
  have hne : g2 ≠ g1 := Own.neTa h.o2 h.o1 (by decide)
  have o1 := h.o1
  have o2 := h.o2
  have hlen := Lib.hid (show P ≤ ns.length from hP ▸ h.len)
  have hb1 := h.b1
  clear h hP
  go_enter Tryd.func10, Tryd.ntmps10
  go_wp2
  go_loopw [1, 5] (fun q i wr => ∃ (k T : Nat) (ns' : List Int), k ≤ n ∧ i = .int .i64 k ∧ q = .int .i64 (1 + (T : Int)) ∧ Hid (k * n = T) ∧ T ≤ P ∧ Hid (P ≤ ns'.length) ∧ Hid (∀ t, t < T → ns'.getD t 0 = 1 + (t : Int)) ∧ Own wr g1 (icells ns') 2 ∧ Own wr g2 cs 48 ∧ Below B w wr) (fun _ i _ => ((n : Int) - intOf i).toNat)
  case atStart => exact ⟨0, 0, ns, by omega, rfl, rfl, Lib.hid (by simp), by omega, hlen, Lib.hid (fun t ht => by omega), o1, o2, Below.refl _ _⟩
  case round =>
    clear o1 o2 hlen
    obtain ⟨k, T, ns', hk, rfl, rfl, hT, hTP, hl, hM, o1, o2, hB⟩ := hrel
    by_cases hlt : k < n
    · have hT2 := Lib.hid (show (k + 1) * n = T + n by rw [Nat.succ_mul, hT.out])
      have hTn : T + n ≤ P := by rw [← hT2.out, ← HP.out]; exact Nat.mul_le_mul_right n (by omega)
      have c1 : wr.cell? ⟨g2, k, none⟩ = some (.slice (some ⟨g1, T, none⟩) n n) := by rw [o2.cell, ← hT.out]; exact HH.out.rof.2 k hlt
      have i1 : (k : Int) < (n : Int) := by omega
      have hC := Lib.hid (markO g1 T n n ns' (Nat.le_trans hTn hl.out) (by omega) (1 + (T : Int)) (by omega) (by omega) wr o1)
      have O2 := Lib.hid o2
      have HB := Lib.hid hB
      clear o1 o2 hB
      go_wp2_with (first
        | (go_at_call 29; ((with_reducible refine (hC.out).mono ?_); rintro e w2 ⟨rfl, ns2, hM2, hO2, hN2⟩)))
      go_roundw
      case rel =>
        refine ⟨k + 1, T + n, ns2, by omega, by go_num, by go_num, hT2, hTn, Lib.hid (by rw [hM2.1]; exact hl.out), Lib.hid (fun t ht => ?_), hO2, O2.out.only hN2 hne, HB.out.trans (hN2.below.mono hb1)⟩
        rw [hM2.2 t]
        by_cases e : T ≤ t
        · rw [if_pos ⟨e, ht⟩]; omega
        · rw [if_neg (by omega)]; exact hM.out t (by omega)
      case measure => simp [intOf]; omega
    · have e : k = n := by omega
      subst e
      have e2 : T = P := by rw [← hT.out]; exact HP.out
      subst e2
      go_wp2
      go_ret
      refine ⟨rfl, ⟨ns', ⟨hb1, HH.out.b2, o1, o2, HH.out.rof, by rw [HP.out]; exact hl.out⟩, fun i j hi hj => ?_⟩, hB⟩
      have hin : i * k + j < T := by
        rw [← HP.out]
        have := Nat.mul_le_mul_right k (show i + 1 ≤ k by omega)
        rw [Nat.succ_mul] at this; omega
      rw [hM.out _ hin, mkR, marksI_get _ _ _ hj]
      push_cast; omega
set_option maxRecDepth 100000 in
set_option maxHeartbeats 1000000 in
theorem heldTT (g2 n ct : Nat) (hn : n ≤ 200) (P : Nat) (hP : n * n = P) (hP2 : P ≤ 100000) (w : World) (h : TRd w g2 n (mkR n)) :
    Calls Tryd.prog 11 #[.slice (some ⟨g2, 0, none⟩) n ct, .int .i64 1] w fun e w' => e = .returned (.int .i64 (1 + (P : Int))) ∧ w' = w := by
  have HH := Lib.hid h
  have HP := Lib.hid hP
  clear h hP
  go_enter Tryd.func11, Tryd.ntmps11
  go_wp2
  go_loopw [1, 5] (fun q i wr => ∃ (k T : Nat), k ≤ n ∧ i = .int .i64 k ∧ q = .int .i64 (1 + (T : Int)) ∧ Hid (k * n = T) ∧ T ≤ P ∧ wr = w) (fun _ i _ => ((n : Int) - intOf i).toNat)
  case atStart => exact ⟨0, 0, by omega, rfl, rfl, Lib.hid (by simp), by omega, rfl⟩
  case round =>
    obtain ⟨k, T, hk, rfl, rfl, hT, hTP, rfl⟩ := hrel
    by_cases hlt : k < n
    · have hT2 := Lib.hid (show (k + 1) * n = T + n by rw [Nat.succ_mul, hT.out])
      have hTn : T + n ≤ P := by rw [← hT2.out, ← HP.out]; exact Nat.mul_le_mul_right n (by omega)
      obtain ⟨a, c, c1, c2⟩ := HH.out k hlt
      have i1 : (k : Int) < (n : Int) := by omega
      rw [mkR, hT.out] at c2
      have hC := Lib.hid (held_any (some a) c n (by omega) (1 + (T : Int)) (by omega) (by omega) _ c2)
      clear c2
      go_wp2_with (first
        | (go_at_call 30; ((with_reducible refine (hC.out).mono ?_); rintro e w2 ⟨rfl, rfl⟩)))
      go_roundw
      case rel => exact ⟨k + 1, T + n, by omega, by go_num, by go_num, hT2, hTn, trivial⟩
      case measure => simp [intOf]; omega
    · have e : k = n := by omega
      subst e
      have e2 : T = P := by rw [← hT.out]; exact HP.out
      subst e2
      go_wp2
      go_ret
      exact ⟨rfl, rfl⟩
theorem eqTT_nil (w : World) : Calls Tryd.prog 9 #[.slice none 0 0, .slice none 0 0] w fun e w' => e = .returned (.bool true) ∧ w' = w := by
  go_enter Tryd.func9, Tryd.ntmps9
  go_wp2
  go_loopw [5] (fun i wr => i = .int .i64 0 ∧ wr = w) (fun i _ => 0)
  case atStart => exact ⟨rfl, rfl⟩
  case round =>
    obtain ⟨rfl, rfl⟩ := hrel
    go_wp2
    go_ret
    exact ⟨rfl, rfl⟩
theorem markTT_nil (w : World) : Calls Tryd.prog 10 #[.slice none 0 0, .int .i64 1] w fun e w' => e = .returned (.int .i64 1) ∧ w' = w := by
  go_enter Tryd.func10, Tryd.ntmps10
  go_wp2
  go_loopw [1, 5] (fun q i wr => i = .int .i64 0 ∧ q = .int .i64 1 ∧ wr = w) (fun _ i _ => 0)
  case atStart => exact ⟨rfl, rfl, rfl⟩
  case round =>
    obtain ⟨rfl, rfl, rfl⟩ := hrel
    go_wp2
    go_ret
    exact ⟨rfl, rfl⟩
theorem heldTT_nil (w : World) : Calls Tryd.prog 11 #[.slice none 0 0, .int .i64 1] w fun e w' => e = .returned (.int .i64 1) ∧ w' = w := by
  go_enter Tryd.func11, Tryd.ntmps11
  go_wp2
  go_loopw [1, 5] (fun q i wr => i = .int .i64 0 ∧ q = .int .i64 1 ∧ wr = w) (fun _ i _ => 0)
  case atStart => exact ⟨rfl, rfl, rfl⟩
  case round =>
    obtain ⟨rfl, rfl, rfl⟩ := hrel
    go_wp2
    go_ret
    exact ⟨rfl, rfl⟩
end Go.Proofs.YtopenojociafaaaDoor
namespace Go.Proofs.YtopenojociafaaaDoor
open Go.RowKit
set_option linter.unusedVariables false
set_option linter.unusedSimpArgs false
theorem os_get (n i : Nat) (h : i < n) : ((List.range n).map (fun i => i * n)).getD i 0 = i * n := by simp [List.getD_eq_getElem?_getD, h]
theorem Tbd.pt {w : World} {B g1 g2 n : Nat} {R : List (List Int)} (h : Tbd w g1 g2 n n ((List.range n).map (fun i => i * n)) R) (b1 : B ≤ g1) (b2 : B ≤ g2) (F : Nat → List Int) (hl : ∀ i, (F i).length = n) (hF : ∀ i, i < n → F i = rw' R i) :
    ∃ cs ns, PT w B g1 g2 n cs ns ∧ TRd w g2 n F := by
  obtain ⟨ns, o1, o2, hL⟩ := h.mem
  have hP : PT w B g1 g2 n (hdr g1 n ((List.range n).map (fun i => i * n))) ns := ⟨b1, b2, o1, o2, ⟨by simp [hdr], fun i hi => by rw [hdr_get _ _ _ _ (by simpa using hi), os_get n i hi]⟩, by
    by_cases h0 : n = 0
    · subst h0; simp
    · have := hL.room (n - 1) (by omega)
      rw [os_get n _ (by omega)] at this
      have e : (n - 1) * n + n = n * n := by
        rw [← Nat.succ_mul]; congr 1; omega
      omega⟩
  refine ⟨_, ns, hP, hP.trd F hl (fun i j hi hj => ?_)⟩
  rw [hF i hi, ← hL.at_ i j hi hj, os_get n i hi]
theorem RwG.trd {w : World} {B g cap n : Nat} {R : Nat → List Int} {vs : List Value} (hl : ∀ i, (R i).length = n) (hR : Rws w B (.slice (some ⟨g, 0, none⟩) n cap) vs) (hn : vs.length = n) (hT : RwG w B R n vs n) : TRd w g n R := by
  rcases hR.shape with ⟨s1, s2⟩ | ⟨g', cap', s1, s2, s3, s4⟩
  · cases s1
  · cases s1
    intro i hi
    obtain ⟨ga, ca, r1, r2⟩ := hT i hi
    refine ⟨⟨ga, 0, none⟩, ca, by rw [s4 i (by omega)]; exact r1, fun a e j hj => ?_, fun e => by cases e⟩
    cases e
    rw [show (⟨ga, 0, none⟩ : Addr).add j = ⟨ga, j, none⟩ by rw [Addr.add_mid, Nat.zero_add]]
    exact r2.cell j hj
end Go.Proofs.YtopenojociafaaaDoor
namespace Go.Proofs.YtopenojociafaaaDoor
open Go.RowKit
set_option linter.unusedVariables false
set_option linter.unusedSimpArgs false
set_option maxRecDepth 100000 in
set_option maxHeartbeats 4000000 in
theorem gtbS_ok (p c : Int) (n k : Nat) (M : Nat) (m1 : 1 ≤ M) (gd : Nat → Nat → Bool) (lp : Nat → Nat → Nat) (w : World)
    (hN0 : ∀ w, Calls Tryd.prog 19 #[.int .i64 p, .int .i64 c, .int .i64 n, .int .i64 k] w fun e w' => e = .returned (.bool true) ∧ w = w')
    (hG0 : ∀ w, Calls Tryd.prog 20 #[.int .i64 p, .int .i64 c, .int .i64 n, .int .i64 k] w fun e w' => ∃ v vs, e = .returned v ∧ Rws w' w.heap.size v vs ∧ vs.length = M ∧ RwG w' w.heap.size (fun i => gL p c gd lp M i M) M vs M ∧ Dst vs ∧ Below w.heap.size w w') :
    Calls Tryd.prog 7 #[.int .i64 p, .int .i64 c, .int .i64 n, .int .i64 k] w fun e w' => ∃ gt ct, e = .returned (.tuple #[.slice (some ⟨gt, 0, none⟩) M ct, .int .i64 0]) ∧ TRd w' gt M (fun i => gL p c gd lp M i M) ∧ Below w.heap.size w w' := by
  have hN := Lib.hid hN0
  have hG := Lib.hid (fun w => (hG0 w).mono fun e w' h => (show ∃ g2 cap, e = .returned (.slice (some ⟨g2, 0, none⟩) M cap) ∧ TRd w' g2 M (fun i => gL p c gd lp M i M) ∧ Below w.heap.size w w' from by
    obtain ⟨v, vs, rfl, q2, q3, q4, q5, q6⟩ := h
    rcases q2.shape with ⟨s1, s2⟩ | ⟨g', cap', s1, s2, s3, s4⟩
    · rw [s2] at q3; simp at q3; omega
    · rw [q3] at s1
      subst s1
      exact ⟨g', cap', rfl, RwG.trd (fun i => gL_len _ _ _ _ _ _ _) q2 q3 q4, q6⟩))
  clear hN0 hG0
  go_enter Tryd.func7, Tryd.ntmps7
  go_wp2_with (first
    | (go_at_call 19; ((with_reducible refine (hN.out _).mono ?_); rintro e w0 ⟨rfl, rfl⟩))
    | (go_at_call 20; ((with_reducible refine (hG.out _).mono ?_); rintro e w1 ⟨g2, cap, rfl, hT1, hB⟩)))
  go_ret2
  exact ⟨g2, cap, rfl, hT1, hB⟩
theorem gtbS_bad (p c n k : Int) (w : World)
    (hN0 : ∀ w, Calls Tryd.prog 19 #[.int .i64 p, .int .i64 c, .int .i64 n, .int .i64 k] w fun e w' => e = .returned (.bool false) ∧ w = w') :
    Calls Tryd.prog 7 #[.int .i64 p, .int .i64 c, .int .i64 n, .int .i64 k] w fun e w' => e = .returned (.tuple #[.slice none 0 0, .int .i64 2]) ∧ Below w.heap.size w w' := by
  have hN := Lib.hid hN0
  clear hN0
  go_enter Tryd.func7, Tryd.ntmps7
  go_wp2_with (first
    | (go_at_call 19; ((with_reducible refine (hN.out _).mono ?_); rintro e w0 ⟨rfl, rfl⟩)))
  go_ret2
  exact ⟨rfl, Below.refl _ _⟩
/-- The law, when both give a table. -/
theorem gtb_good (p c : Int) (n k : Int) (M : Nat) (hM : M ≤ 200) (F : Nat → List Int) (hF : ∀ i, (F i).length = M) (W : World)
    (hS0 : Calls Tryd.prog 7 #[.int .i64 p, .int .i64 c, .int .i64 n, .int .i64 k] W fun e w' => ∃ gt ct, e = .returned (.tuple #[.slice (some ⟨gt, 0, none⟩) M ct, .int .i64 0]) ∧ TRd w' gt M F ∧ Below W.heap.size W w')
    (hI0 : ∀ w, Below W.heap.size W w → Calls Tryd.prog 8 #[.int .i64 p, .int .i64 c, .int .i64 n, .int .i64 k] w fun e w' => ∃ g1 g2 cs ns, e = .returned (.tuple #[.slice (some ⟨g2, 0, none⟩) M M, .int .i64 0]) ∧ PT w' w.heap.size g1 g2 M cs ns ∧ TRd w' g2 M F ∧ Below w.heap.size w w') :
    Calls Tryd.prog 3 #[.int .i64 p, .int .i64 c, .int .i64 n, .int .i64 k] W fun e w' => e = .returned (.bool true) ∧ Below W.heap.size W w' := by
  have hS := Lib.hid hS0
  have hI := Lib.hid hI0
  obtain ⟨P, hP⟩ : ∃ P, M * M = P := ⟨_, rfl⟩
  have hP2 : P ≤ 100000 := by
    have := Nat.mul_le_mul hM hM
    omega
  have hq := Lib.hid (fun gt gt' ct ct' w hR hQ => eqTT gt gt' M ct ct' F hF (by omega) w hR hQ)
  have hk := Lib.hid (fun B g1 g2 cs ns w h => markTT B g1 g2 M cs ns (by omega) P hP hP2 w h)
  have hh := Lib.hid (fun g2 ct w h => heldTT g2 M ct (by omega) P hP hP2 w h)
  have hmr := Lib.hid (show ∀ i, (mkR M i).length = M from fun i => marksI_len _ _)
  clear hP hS0 hI0 hF hM
  go_enter Tryd.func3, Tryd.ntmps3
  go_wp2_with (first
    | (go_at_call 11; ((with_reducible refine (hh.out _ _ w7 ((hT4.below hB6).below hB7)).mono ?_); rintro e w8 ⟨rfl, rfl⟩))
    | (go_at_call 9; ((with_reducible refine (hq.out _ _ _ _ w6 hT6 (hT1b.below hB6)).mono ?_); rintro e w7 ⟨rfl, hB7⟩))
    | (go_at_call 8; ((with_reducible refine (hI.out w5 (hB1.trans (bq.mono hB1.size))).mono ?_); rintro e w6 ⟨g1', g2', cs', ns', rfl, hP6, hT6, hB6⟩))
    | (go_at_call 11; ((with_reducible refine (hh.out _ _ w4 hT4).mono ?_); rintro e w5 ⟨rfl, rfl⟩))
    | (go_at_call 10; ((with_reducible refine (hk.out w1.heap.size _ _ _ _ w3 (hP2'.below hB3)).mono ?_); rintro e w4 ⟨rfl, ⟨ns4, hP4, hM4⟩, hB4⟩; have bq : Below w1.heap.size w1 w4 := ((hB2.trans (hB3.mono hB2.size)).trans hB4); have hT1b := hT1.below bq; have hT4 := hP4.trd (mkR M) hmr.out hM4))
    | (go_at_call 9; ((with_reducible refine (hq.out _ _ _ _ w2 hT2 (hT1.below hB2)).mono ?_); rintro e w3 ⟨rfl, hB3⟩))
    | (go_at_call 8; ((with_reducible refine (hI.out w1 hB1).mono ?_); rintro e w2 ⟨g1, g2, cs, ns, rfl, hP2', hT2, hB2⟩))
    | (go_at_call 7; ((with_reducible refine (hS.out).mono ?_); rintro e w1 ⟨gt, ct, rfl, hT1, hB1⟩)))
  go_ret
  have b1 := hB1.trans (bq.mono hB1.size)
  have b2 := b1.trans (hB6.mono b1.size)
  exact ⟨rfl, b2.trans (hB7.mono b2.size)⟩
theorem gtb_bad (p c n k : Int) (W : World)
    (hS0 : Calls Tryd.prog 7 #[.int .i64 p, .int .i64 c, .int .i64 n, .int .i64 k] W fun e w' => e = .returned (.tuple #[.slice none 0 0, .int .i64 2]) ∧ Below W.heap.size W w')
    (hI0 : ∀ w, Calls Tryd.prog 8 #[.int .i64 p, .int .i64 c, .int .i64 n, .int .i64 k] w fun e w' => e = .returned (.tuple #[.slice none 0 0, .int .i64 2]) ∧ Below w.heap.size w w') :
    Calls Tryd.prog 3 #[.int .i64 p, .int .i64 c, .int .i64 n, .int .i64 k] W fun e w' => e = .returned (.bool true) ∧ Below W.heap.size W w' := by
  have hS := Lib.hid hS0
  have hI := Lib.hid hI0
  clear hS0 hI0
  go_enter Tryd.func3, Tryd.ntmps3
  go_wp2_with (first
    | (go_at_call 11; ((with_reducible refine (heldTT_nil w7).mono ?_); rintro e w8 ⟨rfl, rfl⟩))
    | (go_at_call 9; ((with_reducible refine (eqTT_nil w6).mono ?_); rintro e w7 ⟨rfl, rfl⟩))
    | (go_at_call 8; ((with_reducible refine (hI.out w5).mono ?_); rintro e w6 ⟨rfl, hB6⟩))
    | (go_at_call 11; ((with_reducible refine (heldTT_nil w4).mono ?_); rintro e w5 ⟨rfl, rfl⟩))
    | (go_at_call 10; ((with_reducible refine (markTT_nil w3).mono ?_); rintro e w4 ⟨rfl, rfl⟩))
    | (go_at_call 9; ((with_reducible refine (eqTT_nil w2).mono ?_); rintro e w3 ⟨rfl, rfl⟩))
    | (go_at_call 8; ((with_reducible refine (hI.out w1).mono ?_); rintro e w2 ⟨rfl, hB2⟩))
    | (go_at_call 7; ((with_reducible refine (hS.out).mono ?_); rintro e w1 ⟨rfl, hB1⟩)))
  go_ret
  have b1 := hB1.trans (hB2.mono hB1.size)
  exact ⟨rfl, b1.trans (hB6.mono b1.size)⟩
theorem gtb_law (p c n k m : Int) (w : World) (hm : Ml w m) (hr : -9223372036854775808 ≤ p ∧ p ≤ 9223372036854775807) (hk : -9223372036854775808 ≤ k ∧ k ≤ 9223372036854775807) : Calls Tryd.prog 3 #[.int .i64 p, .int .i64 c, .int .i64 n, .int .i64 k] w fun e w' => e = .returned (.bool true) ∧ Below w.heap.size w w' := by
  by_cases h : modC p c = true ∧ CellOk n k 6
  · obtain ⟨hmc, hc⟩ := h
    have hmc2 := hmc
    unfold modC at hmc2
    rw [Bool.and_eq_true, decide_eq_true_eq] at hmc2
    obtain ⟨hp, c0, c1⟩ := hmc2
    obtain ⟨p2, p97⟩ := primeB_two hp
    have hc2 := hc
    obtain ⟨⟨n1, n6⟩, k0, kn, ke⟩ := hc2
    obtain ⟨N, rfl⟩ : ∃ N : Nat, n = N := ⟨n.toNat, by omega⟩
    obtain ⟨K, rfl⟩ : ∃ K : Nat, k = K := ⟨k.toNat, by omega⟩
    have h1 : 1 ≤ N := by omega
    have h6 : N ≤ 6 := by omega
    have hkN : K ≤ N := by omega
    have hke : (N - K) % 2 = 0 := by omega
    obtain ⟨q1, q2⟩ := allH_len6 N K h1 h6 hkN hke
    obtain ⟨gd, lp, hP⟩ := pairs_ex N K h1 h6 hkN hke m
    have hL : ∀ w, Calls Tryd.prog 43 #[.int .i64 N, .int .i64 K] w fun e w' => ∃ g cap, e = .returned (.slice (some ⟨g, 0, none⟩) (allH N K).length cap) ∧ TMn w' w.heap.size (some ⟨g, 0, none⟩) (bsl (allH N K)) ∧ Below w.heap.size w w' := fun w => by
      have := hsS_ok N K h1 (by omega) w
      rw [tx3_all N K h1 (by omega) hkN hke] at this
      refine this.mono fun e w' h => ?_
      obtain ⟨g, cap, rfl, hI, hB⟩ := h
      rw [List.nil_append] at hI ⊢
      exact ⟨g, cap, by rw [stval, bsl_len], TMn.strs (Nat.le_refl _) hI, hB⟩
    have hG := fun w => gramS_any p c p2 p97 c0 c1 N K (allH N K).length q2 (bsl (allH N K)) (by rw [bsl_len]) gd lp (fun i j hi hj => (hP i j hi hj).1) hL (fun i j hi hj => (hP i j hi hj).2.1) w
    have hGI : ∀ w1, Below w.heap.size w w1 → _ := fun w1 hb => gramI_any p c hp c0 c1 N K h1 h6 hkN hke (allH N K).length rfl q1 q2 gd lp (fun i j hi hj => (hP i j hi hj).1) w1 (fun i j hi hj w2 hb2 => (hP i j hi hj).2.2 w2 ((hm.below hb hm.lt).below hb2 (hm.below hb hm.lt).lt))
    refine gtb_good p c N K (allH N K).length q2 (fun i => gL p c gd lp (allH N K).length i (allH N K).length) (fun i => gL_len _ _ _ _ _ _ _) w (gtbS_ok p c N K _ q1 gd lp w (fun w => twoS_t p c N K hmc hc hr w) hG) (fun w1 hb => ?_)
    refine (hGI w1 hb).mono fun e w2 h => ?_
    obtain ⟨g1, g2, rfl, b1, b2, hT, hB⟩ := h
    obtain ⟨cs, ns, r1, r2⟩ := hT.pt b1 b2 (fun i => gL p c gd lp (allH N K).length i (allH N K).length) (fun i => gL_len _ _ _ _ _ _ _) (fun i hi => by simp [rw', List.getD_eq_getElem?_getD, hi])
    exact ⟨g1, g2, cs, ns, rfl, r1, r2, hB⟩
  · exact gtb_bad p c n k w (gtbS_bad p c n k w (fun w => twoS_f p c n k h hr w)) (fun w => gramI_bad p c n k h hk w)
end Go.Proofs.YtopenojociafaaaDoor
