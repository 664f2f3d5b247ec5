/- The kinds of a partition: the model's. -/
import Derived.Test.YthjgcakpimbcbaaPsi
import Derived.Test.YthjgcakpimbcbaaThp
import Derived.Deep.LoopGhost
import Derived.Deep.CutRange
namespace Go.Proofs.Ythjgcakpimbcbaa
open Go.RowKit
set_option linter.unusedVariables false
set_option linter.unusedSimpArgs false
/-- What holds for the first k parts. -/
def kd (f : Int → Int → Bool) (U W : List Int) : Nat → Bool
  | 0 => true
  | k + 1 => kd f U W k && f (U.getD k 0) (W.getD k 0)
def fPair (u l : Int) : Bool := decide (u + l = 2)
def fSmall (u l : Int) : Bool := decide (u + l ≤ 2)
def fRook (u l : Int) : Bool := decide (u ≤ 1) && decide (l ≤ 1)
def fIdeal (u l : Int) : Bool := decide (u = 0) || decide (l = 0)
def fUni (u l : Int) : Bool := decide (u = l)
def kcells (r a b c d e : Bool) : Array Value := #[.bool r, .bool a, .bool (r && b), .bool c, .bool (c && a), .bool d, .bool e]
theorem mk7 (b0 b1 b2 b3 b4 b5 b6 : Bool) : ∀ w : World, (Instr.buildSlice 39 7 #[(0, .bool b0), (1, .bool b1), (2, .bool b2), (3, .bool b3), (4, .bool b4), (5, .bool b5), (6, .bool b6)]).run Try.prog w = .ok (.slice (some ⟨w.heap.size, 0, none⟩) 7 7) (w.alloc (.cells #[.bool b0, .bool b1, .bool b2, .bool b3, .bool b4, .bool b5, .bool b6] 4)) := by
  intro w; kernel_rfl
set_option maxRecDepth 100000 in
set_option maxHeartbeats 8000000 in
theorem kindsS_any (N : Nat) (ms : List Int) (hms : ms.length = 8) (hA : Nums ms) (r : Bool) (hr : r = true ↔ ¬ Crs (arZ N ms N (2 * N)) (2 * N)) (w : World) (h1 : 1 ≤ N) (h4 : N ≤ 4) :
    Calls Try.prog 19 #[.agg (dcells N ms)] w fun e w' => ∃ g, e = .returned (.slice (some ⟨g, 0, none⟩) 7 7) ∧ w.heap.size ≤ g ∧ Own w' g (kcells r (kd fPair (upL N ms (2 * N)) (loL N ms (2 * N)) (parN ms N)) (kd fSmall (upL N ms (2 * N)) (loL N ms (2 * N)) (parN ms N)) (kd fRook (upL N ms (2 * N)) (loL N ms (2 * N)) (parN ms N)) (kd fIdeal (upL N ms (2 * N)) (loL N ms (2 * N)) (parN ms N)) (kd fUni (upL N ms (2 * N)) (loL N ms (2 * N)) (parN ms N))) 4 ∧ Below w.heap.size w w' := by
  have hl := Lib.hid hms
  have hct := Lib.hid (fun w => countsS_nat N ms hms hA w h1 h4)
  have hpl := Lib.hid (fun w => planS_cr N ms hms h1 h4 r hr w)
  have hpt := pt_par ms N h1 hA
  have hpb := par_bd ms N h1 hA hms h4
  obtain ⟨P, hP⟩ : ∃ P, parN ms N = P := ⟨_, rfl⟩
  rw [hP] at hpt hpb
  rw [hpt] at hct
  have hub := Lib.hid (fun i => upL_bd N ms (2 * N) i)
  have hlb := Lib.hid (fun i => loL_bd N ms (2 * N) i)
  have hu8 := Lib.hid (upL_len N ms (2 * N))
  have hl8 := Lib.hid (loL_len N ms (2 * N))
  rw [hP]
  obtain ⟨p1, p8, _⟩ := hpb
  generalize upL N ms (2 * N) = U at *
  generalize loL N ms (2 * N) = W at *
  have hv1 := Lib.hid (fun k => show kd fPair U W (k + 1) = (kd fPair U W k && fPair (U.getD k 0) (W.getD k 0)) from rfl)
  have hv2 := Lib.hid (fun k => show kd fSmall U W (k + 1) = (kd fSmall U W k && fSmall (U.getD k 0) (W.getD k 0)) from rfl)
  have hv3 := Lib.hid (fun k => show kd fRook U W (k + 1) = (kd fRook U W k && fRook (U.getD k 0) (W.getD k 0)) from rfl)
  have hv4 := Lib.hid (fun k => show kd fIdeal U W (k + 1) = (kd fIdeal U W k && fIdeal (U.getD k 0) (W.getD k 0)) from rfl)
  have hv5 := Lib.hid (fun k => show kd fUni U W (k + 1) = (kd fUni U W k && fUni (U.getD k 0) (W.getD k 0)) from rfl)
  clear hms hA hP hpt hr
  go_enter Try.func19, Try.ntmps19
  go_wp2_with (first
    | (refine wpList_load_row rfl 38 _ rfl _ rfl 38 _ (0, 0) _ (Own.new _ _ _) Try.underlying38 rfl (rowP (d9 _ _ (hl.out))) ?_)
    | (refine wpList_load_row rfl 38 _ rfl _ rfl 38 _ (0, 0) _ (hQ5) Try.underlying38 rfl (rowP (d9 _ _ (hl.out))) ?_)
    | (go_at_call 25; ((with_reducible refine (hct.out _).mono ?_); rintro e w2 ⟨rfl, hB2⟩; have hB3 : Below w.heap.size w w2 := ((Below.refl w.heap.size w).alloc (Nat.le_refl _) _).trans (hB2.mono (by simp)); have hQ2 : Own w2 w.heap.size (dcells N ms) 38 := (Own.new _ _ _).below hB2 (by simp); have hs2 := hB3.size; have hq2 := hQ2.lt; clear hB2))
    | (refine wpList_store_own rfl 43 _ _ rfl _ _ rfl rfl 43 _ ((Own.new w2 (icells zer8) 43).alloc _) (row66 (ic8 _ hu8.out)) (by rw [ic8 _ hu8.out]; rfl) (icells_one8 _) ?_; intro w4 hO4 hN4; have hP4 : Own w4 (w2.heap.size + 1) (icells zer8) 43 := (Own.at _ (icells zer8) _ (by simp)).only hN4 (by omega))
    | (refine wpList_store_own rfl 43 _ _ rfl _ _ rfl rfl 43 _ hP4 (row66 (ic8 _ hl8.out)) (by rw [ic8 _ hl8.out]; rfl) (icells_one8 _) ?_; intro w5 hO5 hN5; have hQ5 : Own w5 w.heap.size (dcells N ms) 38 := (((hQ2.alloc _).alloc _).only hN4 (by omega)).only hN5 (by omega))
    | (go_at_call 26; ((with_reducible refine (hpl.out _).mono ?_); rintro e w6 ⟨rfl, hB6⟩)))
  have hU5 := Lib.hid ((hO4.only hN5 (by omega)).below hB6 (hO4.only hN5 (by omega)).lt)
  have hL5 := Lib.hid (hO5.below hB6 hO5.lt)
  have hB5 := Lib.hid (show Below w.heap.size w w6 from ((((hB3.alloc hs2 _).alloc (by simp; omega) _).trans (hN4.below.mono (by omega))).trans (hN5.below.mono (by omega))).trans (hB6.mono (by have := hQ5.lt; omega)))
  clear hO4 hN4 hP4 hO5 hN5 hB3 hB6 hQ5 hQ2
  go_loopg [7, 8, 9, 10, 11, 12] P (fun f s1 s2 s3 s4 s5 i wx => ∃ k : Nat, k + f = P ∧ i = .int .i64 k ∧ s1 = .bool (kd fPair U W k) ∧ s2 = .bool (kd fSmall U W k) ∧ s3 = .bool (kd fRook U W k) ∧ s4 = .bool (kd fIdeal U W k) ∧ s5 = .bool (kd fUni U W k) ∧ Own wx w2.heap.size (icells U) 43 ∧ Own wx (w2.heap.size + 1) (icells W) 43 ∧ Below w.heap.size w wx)
  case atStart => exact ⟨0, by omega, rfl, rfl, rfl, rfl, rfl, rfl, hU5.out, hL5.out, hB5.out⟩
  case round =>
    clear hU5 hL5 hB5
    obtain ⟨k, hk, rfl, rfl, rfl, rfl, rfl, rfl, hU, hL, hB⟩ := hrel
    by_cases hlt : k < P
    · obtain ⟨f', rfl⟩ : ∃ f', gk = f' + 1 := ⟨gk - 1, by omega⟩
      have i1 : (k : Int) < (P : Int) := by omega
      have i2 : (k : Int) < 8 := by omega
      have c1 := hU.cell k
      rw [icells_get _ _ (by rw [hu8.out]; omega)] at c1
      have c2 := hL.cell k
      rw [icells_get _ _ (by rw [hl8.out]; omega)] at c2
      have T1 := Lib.hid (hv1.out k)
      have T2 := Lib.hid (hv2.out k)
      have T3 := Lib.hid (hv3.out k)
      have T4 := Lib.hid (hv4.out k)
      have T5 := Lib.hid (hv5.out k)
      have ub := hub.out k
      have lb := hlb.out k
      have HU := Lib.hid hU
      have HL := Lib.hid hL
      have HB := Lib.hid hB
      clear hU hL hB
      have hue := Lib.hid (show U.getD k 0 = U.getD k 0 from rfl)
      obtain ⟨u, hu⟩ : ∃ u, U.getD k 0 = u := ⟨_, rfl⟩
      obtain ⟨l, hlw⟩ : ∃ l, W.getD k 0 = l := ⟨_, rfl⟩
      rw [hu, hlw] at T1 T2 T3 T4 T5
      rw [hu] at c1 ub
      rw [hlw] at c2 lb
      have HUE := Lib.hid hu
      have HLE := Lib.hid hlw
      clear hu hlw hue
      generalize kd fPair U W k = b1 at *
      generalize kd fSmall U W k = b2 at *
      generalize kd fRook U W k = b3 at *
      generalize kd fIdeal U W k = b4 at *
      generalize kd fUni U W k = b5 at *
      obtain ⟨u0, u8⟩ := ub
      obtain ⟨l0, l8⟩ := lb
      go_wp2_with fail
      go_quiet (fail)
      have HU1 := Lib.hid (HU.out.drewN nq)
      have HL1 := Lib.hid (HL.out.drewN nq)
      have HB1 := Lib.hid (Below.drewN HB.out nq)
      clear c1 c2 HU HL HB
      generalize wr.drewN nq = w1 at *
      have c1 := HU1.out.cell k
      rw [icells_get _ _ (by rw [hu8.out]; omega), HUE.out] at c1
      have c2 := HL1.out.cell k
      rw [icells_get _ _ (by rw [hl8.out]; omega), HLE.out] at c2
      go_upto_region 7 with fail
      go_cut [7] from 22 to 79 (fun s wx => s = .bool (b1 && fPair u l) ∧ wx = w1)
      case first =>
        cases b1
        · (
          go_wp2_with fail
          go_meet
          exact ⟨by first | rfl | (simp [fRook, a1]; done) | (simp [fRook]; omega) | (simp [fIdeal, a1]; done) | (simp [fIdeal, a1]; rfl) | (unfold fIdeal; rw [decide_eq_false a1]; rfl), rfl⟩)
        · (
          go_wp2_with fail
          go_meet
          exact ⟨by first | rfl | (simp [fRook, a1]; done) | (simp [fRook]; omega) | (simp [fIdeal, a1]; done) | (simp [fIdeal, a1]; rfl) | (unfold fIdeal; rw [decide_eq_false a1]; rfl), rfl⟩)
      case rest =>
        obtain ⟨rfl, hw⟩ := hcut
        have hw2 := hw.symm
        clear hw
        subst hw2
        go_upto_region 8 with fail
        go_cut [8] from 22 to 79 (fun s wx => s = .bool (b2 && fSmall u l) ∧ wx = w1)
        case first =>
          cases b2
          · (
            go_wp2_with fail
            go_meet
            exact ⟨by first | rfl | (simp [fRook, a1]; done) | (simp [fRook]; omega) | (simp [fIdeal, a1]; done) | (simp [fIdeal, a1]; rfl) | (unfold fIdeal; rw [decide_eq_false a1]; rfl), rfl⟩)
          · (
            go_wp2_with fail
            go_meet
            exact ⟨by first | rfl | (simp [fRook, a1]; done) | (simp [fRook]; omega) | (simp [fIdeal, a1]; done) | (simp [fIdeal, a1]; rfl) | (unfold fIdeal; rw [decide_eq_false a1]; rfl), rfl⟩)
        case rest =>
          obtain ⟨rfl, hw⟩ := hcut
          have hw2 := hw.symm
          clear hw
          subst hw2
          go_upto_region 9 with fail
          go_cut [9] from 22 to 79 (fun s wx => s = .bool (b3 && fRook u l) ∧ wx = w1)
          case first =>
            cases b3
            · (
              go_wp2_with fail
              go_meet
              exact ⟨by first | rfl | (simp [fRook, a1]; done) | (simp [fRook]; omega) | (simp [fIdeal, a1]; done) | (simp [fIdeal, a1]; rfl) | (unfold fIdeal; rw [decide_eq_false a1]; rfl), rfl⟩)
            · by_cases a1 : u ≤ 1
              · (
                go_wp2_with fail
                go_meet
                exact ⟨by first | rfl | (simp [fRook, a1]; done) | (simp [fRook]; omega) | (simp [fIdeal, a1]; done) | (simp [fIdeal, a1]; rfl) | (unfold fIdeal; rw [decide_eq_false a1]; rfl), rfl⟩)
              · (
                go_wp2_with fail
                go_meet
                exact ⟨by first | rfl | (simp [fRook, a1]; done) | (simp [fRook]; omega) | (simp [fIdeal, a1]; done) | (simp [fIdeal, a1]; rfl) | (unfold fIdeal; rw [decide_eq_false a1]; rfl), rfl⟩)
          case rest =>
            obtain ⟨rfl, hw⟩ := hcut
            have hw2 := hw.symm
            clear hw
            subst hw2
            go_upto_region 10 with fail
            go_cut [10] from 22 to 79 (fun s wx => s = .bool (b4 && fIdeal u l) ∧ wx = w1)
            case first =>
              cases b4
              · (
                go_wp2_with fail
                go_meet
                exact ⟨by first | rfl | (simp [fRook, a1]; done) | (simp [fRook]; omega) | (simp [fIdeal, a1]; done) | (simp [fIdeal, a1]; rfl) | (unfold fIdeal; rw [decide_eq_false a1]; rfl), rfl⟩)
              · by_cases a1 : u = 0
                · have a2 : (u == 0) = true := by simpa using a1
                  (
                  go_wp2_with fail
                  go_meet
                  exact ⟨by first | rfl | (simp [fRook, a1]; done) | (simp [fRook]; omega) | (simp [fIdeal, a1]; done) | (simp [fIdeal, a1]; rfl) | (unfold fIdeal; rw [decide_eq_false a1]; rfl), rfl⟩)
                · have a2 : (u == 0) = false := by simpa using a1
                  (
                  go_wp2_with fail
                  go_meet
                  exact ⟨by first | rfl | (simp [fRook, a1]; done) | (simp [fRook]; omega) | (simp [fIdeal, a1]; done) | (simp [fIdeal, a1]; rfl) | (unfold fIdeal; rw [decide_eq_false a1]; rfl), rfl⟩)
            case rest =>
              obtain ⟨rfl, hw⟩ := hcut
              have hw2 := hw.symm
              clear hw
              subst hw2
              obtain ⟨e1, he1⟩ : ∃ e, e = (b1 && fPair u l) := ⟨_, rfl⟩
              obtain ⟨e2, he2⟩ : ∃ e, e = (b2 && fSmall u l) := ⟨_, rfl⟩
              obtain ⟨e3, he3⟩ : ∃ e, e = (b3 && fRook u l) := ⟨_, rfl⟩
              obtain ⟨e4, he4⟩ : ∃ e, e = (b4 && fIdeal u l) := ⟨_, rfl⟩
              rw [← he1, ← he2, ← he3, ← he4]
              rw [← he1] at T1
              rw [← he2] at T2
              rw [← he3] at T3
              rw [← he4] at T4
              clear he1 he2 he3 he4
              cases b5
              · have T6 := Lib.hid (show kd fUni U W (k + 1) = false by rw [T5.out]; rfl)
                clear T5
                go_wp2_with fail
                go_quiet (fail)
                go_wp2_with fail
                go_roundg f'
                case measure => omega
                case rel => exact ⟨k + 1, by omega, by go_num, by rw [T1.out], by rw [T2.out], by rw [T3.out], by rw [T4.out], by rw [T6.out], HU1.out.drewN _, HL1.out.drewN _, Below.drewN HB1.out _⟩
              · have T6 := Lib.hid (show kd fUni U W (k + 1) = (u == l) by rw [T5.out]; rfl)
                clear T5
                go_wp2_with fail
                go_quiet (fail)
                go_wp2_with fail
                go_roundg f'
                case measure => omega
                case rel => exact ⟨k + 1, by omega, by go_num, by rw [T1.out], by rw [T2.out], by rw [T3.out], by rw [T4.out], by rw [T6.out], HU1.out.drewN _, HL1.out.drewN _, Below.drewN HB1.out _⟩
    · obtain rfl : k = P := by omega
      have E1 := Lib.hid (show kd fPair U W k = kd fPair U W k from rfl)
      obtain ⟨b1, g1⟩ : ∃ b, kd fPair U W k = b := ⟨_, rfl⟩
      obtain ⟨b2, g2⟩ : ∃ b, kd fSmall U W k = b := ⟨_, rfl⟩
      obtain ⟨b3, g3⟩ : ∃ b, kd fRook U W k = b := ⟨_, rfl⟩
      obtain ⟨b4, g4⟩ : ∃ b, kd fIdeal U W k = b := ⟨_, rfl⟩
      obtain ⟨b5, g5⟩ : ∃ b, kd fUni U W k = b := ⟨_, rfl⟩
      rw [g1, g2, g3, g4, g5]
      have G1 := Lib.hid g1
      have G2 := Lib.hid g2
      have G3 := Lib.hid g3
      have G4 := Lib.hid g4
      have G5 := Lib.hid g5
      have HB := Lib.hid hB
      clear hU hL hB g1 g2 g3 g4 g5 E1
      have hmk := mk7
      cases r <;> cases b3 <;> (
        go_wp2
        go_ret
        exact ⟨_, rfl, HB.out.size, by rw [G1.out, G2.out, G3.out, G4.out, G5.out]; exact Own.new _ _ _, HB.out.alloc HB.out.size _⟩)
end Go.Proofs.Ythjgcakpimbcbaa
