/- The program's parts of letters: own slices of slices of bytes, and the walk of outerParts. -/
import Derived.Test.YtpjlienelkflhaaBlm
import Derived.Test.YtpjlienelkflhaaSl
import Derived.Test.YtpjlienelkflhaaBys
namespace Go.Proofs.Ytpjlienelkflhaa
open Go.RowKit
set_option linter.unusedVariables false
set_option linter.unusedSimpArgs false
/-- A slice of slices of bytes of the call's own. -/
def Prs (w : World) (base g cap : Nat) (xs : List Value) : Prop :=
  base ≤ g ∧ xs.length ≤ cap ∧ cap ≤ maxLen ∧ ∃ cur : Array Value, Own w g cur 70 ∧ cur.size = cap ∧ cur.toList.take xs.length = xs
theorem Prs.lt {w : World} {base g cap : Nat} {xs : List Value} (h : Prs w base g cap xs) : g < w.heap.size := by
  obtain ⟨_, _, _, cur, ho, _⟩ := h; exact ho.lt
theorem Prs.cell {w : World} {base g cap : Nat} {xs : List Value} (h : Prs w base g cap xs) (j : Nat) (hj : j < xs.length) : w.cell? ⟨g, j, none⟩ = xs[j]? := by
  obtain ⟨_, h2, _, cur, ho, hs, ht⟩ := h
  rw [ho.cell]
  have e : (cur.toList.take xs.length)[j]? = xs[j]? := by rw [ht]
  rw [List.getElem?_take_of_lt hj] at e
  simpa using e
theorem Prs.below {w w' : World} {base g cap B : Nat} {xs : List Value} (h : Prs w base g cap xs) (hb : Below B w w') (hB : g < B) : Prs w' base g cap xs := by
  obtain ⟨h1, h2, h3, cur, ho, hs, ht⟩ := h
  exact ⟨h1, h2, h3, cur, ho.below hb hB, hs, ht⟩
theorem Prs.only {w w' : World} {base g cap b : Nat} {xs : List Value} (h : Prs w base g cap xs) (hb : Only b w w') (hB : g ≠ b) : Prs w' base g cap xs := by
  obtain ⟨h1, h2, h3, cur, ho, hs, ht⟩ := h
  exact ⟨h1, h2, h3, cur, ho.only hb hB, hs, ht⟩
theorem Prs.alloc {w : World} {base g cap : Nat} {xs : List Value} (h : Prs w base g cap xs) (o : Obj) : Prs (w.alloc o) base g cap xs := by
  obtain ⟨h1, h2, h3, cur, ho, hs, ht⟩ := h
  exact ⟨h1, h2, h3, cur, ho.alloc o, hs, ht⟩
theorem Prs.grown {w w' : World} {base g cap b : Nat} {xs : List Value} (h : Prs w base g cap xs) (hg : w.grownBy w' (some b)) (hb : g ≠ b) : Prs w' base g cap xs := by
  obtain ⟨h1, h2, h3, cur, ho, hs, ht⟩ := h
  exact ⟨h1, h2, h3, cur, ho.grown hg hb, hs, ht⟩
def prval (g cap : Nat) (xs : List Value) : Value := .slice (some ⟨g, 0, none⟩) xs.length cap
theorem Prs.owns {w : World} {base g cap : Nat} {xs : List Value} (h : Prs w base g cap xs) : w.ownsRow base 70 1 (prval g cap xs) xs.length xs := by
  obtain ⟨h1, h2, h3, cur, ho, hs, ht⟩ := h
  exact ⟨by simp, .inr ⟨g, cap, cur, rfl, h1, ho, h2, h3, by simpa using hs, by simpa using ht⟩⟩
theorem Prs.of_owns {w : World} {base : Nat} {v : Value} {xs : List Value} (h : w.ownsRow base 70 1 v xs.length xs) (hv : v ≠ .slice none 0 0) : ∃ g cap, v = prval g cap xs ∧ Prs w base g cap xs := by
  obtain ⟨_, ⟨h0, _⟩ | ⟨g, cap, cur, hv', hg, hh, hn, hcap, hsz, htake⟩⟩ := h
  · exact absurd h0 hv
  · exact ⟨g, cap, hv', hg, hn, hcap, cur, hh, by simpa using hsz, by simpa using htake⟩
theorem Prs.new (w : World) (base n cap : Nat) (hb : base ≤ w.heap.size) (hw : w.heap.size = n) (hc : cap ≤ maxLen) (cs : Array Value) (hs : cs.size = cap) : Prs (w.alloc (.cells cs 70)) base n cap [] := by
  subst hw
  exact ⟨hb, Nat.zero_le _, hc, cs, Own.new _ _ _, hs, by simp⟩
theorem infoPr : (Try.prog.info? 70).map (fun i => (i.zero, i.size, i.bytes)) = some (some (.slice none 0 0), 1, 24) := by kernel_rfl
theorem wpList_append_prs {ops : Array Oper} {rest : List Oper} {o : Oper} {a : Act} {w : World} {Q : Exit → Act → World → Prop} (hgd : o.guard = none) (s x : Operand)
    (ho : o.op = .call { callee := .builtin .append, args := #[s, x], argTypes := #[73, 73] })
    (base g cap : Nat) (xs : List Value) (p : Option Addr) (l k : Nat) (hs : a.eval s = prval g cap xs) (hi : Prs w base g cap xs) (ad : Addr) (c : Nat)
    (hx : a.eval x = .slice (some ad) 1 c) (hy : w.cell? ad = some (.slice p l k)) (hl : xs.length < 2097152) (hbase : base ≤ w.heap.size)
    (h : ∀ g' cap' w', Prs w' base g' cap' (xs ++ [.slice p l k]) → w.grownBy w' (some g) → wpList Try.prog ops Q rest (a.put o.dst (prval g' cap' (xs ++ [.slice p l k]))) w') : wpList Try.prog ops Q (o :: rest) a w := by
  obtain ⟨i0, hi0, hz0, hz1, hz2⟩ := info_parts infoPr
  refine wpList_append_own w hgd s x 73 ho base 70 i0 (.slice none 0 0) 1 24 Try.underlying73 hi0 hz0 hz1 hz2 rfl (by decide) _ _ _ hs hi.owns ad 1 c [.slice p l k] hx rfl ?_ (by simp [Value.oneCell']) (by unfold maxLen; omega) (by omega) hbase ?_
  · intro j u hj
    match j, hj with
    | 0, hj =>
      simp at hj; subst hj
      have e : ad.add 0 = ad := by unfold Addr.add; split <;> simp_all
      rw [e]; exact hy
    | j + 1, hj => simp at hj
  · intro v' w' hown hgr hn
    have e1 : (xs ++ [Value.slice p l k]).length = xs.length + 1 := by simp
    rw [← e1] at hown
    obtain ⟨g', cap', rfl, hI⟩ := Prs.of_owns hown (fun e => by simpa [prval] using hn.1 e)
    exact h g' cap' w' hI hgr
theorem mk0p : ∀ w : World, (Instr.buildSlice 73 0 #[]).run Try.prog w = .ok (.slice (some ⟨w.heap.size, 0, none⟩) 0 0) (w.alloc (.cells #[] 70)) := by
  intro w; kernel_rfl
/-- A part as a slice of the letters. -/
def pv (g : Nat) (q : Nat × Nat) : Value := .slice (some ⟨g, q.1, none⟩) (q.2 - q.1) (q.2 - q.1)
set_option maxRecDepth 100000 in
theorem slPart (g N cap f e : Nat) (h1 : f < e) (h2 : e ≤ cap) : ∀ w : World, (Instr.slice 70 (.slice (some ⟨g, 0, none⟩) N cap) (some (.int .i64 (f : Int))) (some (.int .i64 (e : Int))) (some (.int .i64 (e : Int)))).run Try.prog w = .ok (pv g (f, e)) w := by
  intro w
  have hs : (sizeOf (Try.prog.elem 70)).run Try.prog w = .ok 1 w := by kernel_rfl
  rw [run_slice_lhm w 70 _ N cap Try.underlying70 .i64 .i64 .i64 f e e (by omega) (by omega) (by omega) (by omega), hs]
  unfold sliced pv
  simp only [Result.andThen, Int.toNat_natCast, Option.map_some]
  rw [if_neg (by omega)]
  simp only [Nat.mul_one]
  unfold Addr.add
  simp
  omega
/-- The letters can be read. -/
def RdL (w : World) (g : Nat) (L : List Int) : Prop := g < w.heap.size ∧ ∀ j, j < L.length → w.cell? ⟨g, j, none⟩ = some (.int .u8 (L.getD j 0))
theorem RdL.below {w w' : World} {g B : Nat} {L : List Int} (h : RdL w g L) (hb : Below B w w') (hB : g < B) : RdL w' g L :=
  ⟨Nat.lt_of_lt_of_le h.1 hb.size, fun j hj => by rw [← h.2 j hj]; unfold World.cell?; simp only; rw [hb.block g hB]⟩
def OutPost (L : List Int) (g : Nat) (w : World) (e : Ending) (w' : World) : Prop :=
  ∃ g' cap', e = .returned (.slice (some ⟨g', 0, none⟩) (cutP L L.length).1.length cap') ∧ Prs w' w.heap.size g' cap' ((cutP L L.length).1.map (pv g)) ∧ Below w.heap.size w w'
theorem cut_more (L : List Int) (k : Nat) (P : List (Nat × Nat)) (f : Nat) (d : Int) (h : cutP L k = (P, f, d)) (s : Int) (hs : stp (L.getD k 0) = s) (hz : ¬ d + s = 0) : cutP L (k + 1) = (P, f, d + s) := by
  rw [cutP, h, hs, if_neg hz]
theorem cut_done (L : List Int) (k : Nat) (P : List (Nat × Nat)) (f : Nat) (d : Int) (h : cutP L k = (P, f, d)) (s : Int) (hs : stp (L.getD k 0) = s) (hz : d + s = 0) : cutP L (k + 1) = (P ++ [(f, k + 1)], k + 1, 0) := by
  rw [cutP, h, hs, if_pos hz]
set_option maxRecDepth 100000 in
set_option maxHeartbeats 4000000 in
theorem out_any (g N cap : Nat) (L : List Int) (hN : L.length = N) (hN2 : N ≤ 1048576) (hc : N ≤ cap) (hB : Bytes L) (w : World) (hR : RdL w g L) :
    Calls Try.prog 50 #[.slice (some ⟨g, 0, none⟩) N cap] w (OutPost L g w) := by
  have HN := Lib.hid hN
  have HB := Lib.hid hB
  have HR := Lib.hid hR
  have hg := hR.1
  have hmk := mk0p
  have hsl := Lib.hid (slPart g N cap)
  have hpost := Lib.hid (show ∀ (P : List (Nat × Nat)) (f : Nat) (d : Int) g' cap' w', cutP L N = (P, f, d) → Prs w' w.heap.size g' cap' (P.map (pv g)) → Below w.heap.size w w' → OutPost L g w (.returned (.slice (some ⟨g', 0, none⟩) P.length cap')) w' from fun P f d g' cap' w' e hP hb => by
    unfold OutPost; rw [hN, e]; exact ⟨g', cap', rfl, hP, hb⟩)
  clear hN hB hR
  go_enter Try.func50, Try.ntmps50
  go_wp2
  clear hmk
  go_loopw [3, 4, 5, 11] (fun ps fi op i wr => ∃ (k f g1 cap1 : Nat) (d : Int) (P : List (Nat × Nat)), k ≤ N ∧ f ≤ k ∧ -1048576 ≤ d ∧ d ≤ 1048576 ∧ P.length ≤ k ∧ i = .int .i64 k ∧ fi = .int .i64 f ∧ op = .int .i64 d ∧ ps = .slice (some ⟨g1, 0, none⟩) P.length cap1 ∧ Hid (cutP L k = (P, f, d)) ∧ Prs wr w.heap.size g1 cap1 (P.map (pv g)) ∧ Below w.heap.size w wr) (fun _ _ _ i _ => (N - intOf i).toNat)
  case atStart => exact ⟨0, 0, _, _, 0, [], by omega, by omega, by omega, by omega, by simp, rfl, rfl, rfl, rfl, Lib.hid rfl, Prs.new _ _ _ _ (Nat.le_refl _) rfl (by decide) #[] rfl, (Below.refl _ _).alloc (Nat.le_refl _) _⟩
  case round =>
    obtain ⟨k, f, g1, cap1, d, P, hk, hf, hd1, hd2, hPl, rfl, rfl, rfl, rfl, hC, hP, hBel⟩ := hrel
    by_cases hlt : k < N
    · have hsz := hBel.size
      have c1 := (HR.out.below hBel hg).2 k (by rw [HN.out]; exact hlt)
      have cb := HB.out.get k
      have nx := cutP_bd L (k + 1)
      have hbd := Lib.hid nx
      obtain ⟨c, hcv⟩ : ∃ c, L.getD k 0 = c := ⟨_, rfl⟩
      have HC := Lib.hid hcv
      rw [hcv] at c1 cb
      have hgl := hP.lt
      have hgb := hP.1
      have hsv : ∀ w : World, (Instr.slice 70 (.slice (some ⟨g, 0, none⟩) N cap) (some (.int .i64 (f : Int))) (some (.int .i64 ((k : Int) + 1))) (some (.int .i64 ((k : Int) + 1)))).run Try.prog w = .ok (.slice (some ⟨g, f, none⟩) (k + 1 - f) (k + 1 - f)) w := hsl.out f (k + 1) (by omega) (by omega)
      have hPm : (P.map (pv g)).length < 2097152 := by rw [List.length_map]; omega
      have hPn := Lib.hid (show (P.map (pv g)).length = P.length from by simp)
      have kI : (k : Int) < (N : Int) := by omega
      have cI : (N : Int) ≤ (cap : Int) := by omega
      clear hcv nx
      by_cases c40 : c = 40
      · have b40 : (c == 40) = true := by simpa using c40
        have hS := Lib.hid (show stp (L.getD k 0) = 1 from by rw [HC.out, c40]; decide)
        by_cases hz : d + 1 = 0
        · have hb : ((d + 1) == 0) = true := by simp only [beq_iff_eq]; omega
          have HQ := Lib.hid (cut_done L k P f d hC.out _ hS.out hz)
          clear hS hC HC hbd c40
          go_wp2_with (first
            | (refine wpList_append_prs rfl (.tmp 29) (.tmp 37) rfl w.heap.size g1 cap1 (P.map (pv g)) (some ⟨g, f, none⟩) (k + 1 - f) (k + 1 - f) (by unfold prval; rw [hPn.out]; rfl) (hP.alloc _) ⟨wr.heap.size, 0, none⟩ 1 rfl ((Own.new _ _ _).cell 0) hPm (by simp; omega) ?_; intro g2 cap2 w2 hP2 hG2))
          have hB2 : Below w.heap.size w w2 := (hBel.alloc hsz _).grown hG2 (by simp; omega) (fun k e => by simp at e; omega)
          have e1 : (P.map (pv g)) ++ [Value.slice (some ⟨g, f, none⟩) (k + 1 - f) (k + 1 - f)] = (P ++ [(f, k + 1)]).map (pv g) := by rw [List.map_append]; rfl
          have e2 : ((P.map (pv g)) ++ [Value.slice (some ⟨g, f, none⟩) (k + 1 - f) (k + 1 - f)]).length = (P ++ [(f, k + 1)]).length := by simp
          rw [e1] at hP2
          clear hP hG2 e1
          go_wp2
          go_roundw
          case rel => exact ⟨k + 1, k + 1, g2, cap2, 0, P ++ [(f, k + 1)], by omega, by omega, by omega, by omega, by simp; omega, by go_num, by go_num, by congr 1 <;> omega, by unfold prval; rw [e2], HQ, hP2, hB2⟩
          case measure => simp [intOf]; omega
        · have hb : ((d + 1) == 0) = false := by simp only [beq_eq_false_iff_ne, ne_eq]; omega
          have HQ := Lib.hid (cut_more L k P f d hC.out _ hS.out hz)
          have hbq := hbd.out; rw [HQ.out] at hbq; obtain ⟨_, _, q1, q2, _⟩ := hbq; simp only at q1 q2
          clear hS hC HC hbd hz c40
          go_wp2
          go_roundw
          case rel => exact ⟨k + 1, f, g1, cap1, d + 1, P, by omega, by omega, by omega, by omega, by omega, by go_num, rfl, rfl, rfl, HQ, hP, hBel⟩
          case measure => simp [intOf]; omega
      have b40 : (c == 40) = false := by simpa using c40
      by_cases c91 : c = 91
      · have b91 : (c == 91) = true := by simpa using c91
        have hS := Lib.hid (show stp (L.getD k 0) = 1 from by rw [HC.out, c91]; decide)
        by_cases hz : d + 1 = 0
        · have hb : ((d + 1) == 0) = true := by simp only [beq_iff_eq]; omega
          have HQ := Lib.hid (cut_done L k P f d hC.out _ hS.out hz)
          clear hS hC HC hbd c91
          go_wp2_with (first
            | (refine wpList_append_prs rfl (.tmp 29) (.tmp 37) rfl w.heap.size g1 cap1 (P.map (pv g)) (some ⟨g, f, none⟩) (k + 1 - f) (k + 1 - f) (by unfold prval; rw [hPn.out]; rfl) (hP.alloc _) ⟨wr.heap.size, 0, none⟩ 1 rfl ((Own.new _ _ _).cell 0) hPm (by simp; omega) ?_; intro g2 cap2 w2 hP2 hG2))
          have hB2 : Below w.heap.size w w2 := (hBel.alloc hsz _).grown hG2 (by simp; omega) (fun k e => by simp at e; omega)
          have e1 : (P.map (pv g)) ++ [Value.slice (some ⟨g, f, none⟩) (k + 1 - f) (k + 1 - f)] = (P ++ [(f, k + 1)]).map (pv g) := by rw [List.map_append]; rfl
          have e2 : ((P.map (pv g)) ++ [Value.slice (some ⟨g, f, none⟩) (k + 1 - f) (k + 1 - f)]).length = (P ++ [(f, k + 1)]).length := by simp
          rw [e1] at hP2
          clear hP hG2 e1
          go_wp2
          go_roundw
          case rel => exact ⟨k + 1, k + 1, g2, cap2, 0, P ++ [(f, k + 1)], by omega, by omega, by omega, by omega, by simp; omega, by go_num, by go_num, by congr 1 <;> omega, by unfold prval; rw [e2], HQ, hP2, hB2⟩
          case measure => simp [intOf]; omega
        · have hb : ((d + 1) == 0) = false := by simp only [beq_eq_false_iff_ne, ne_eq]; omega
          have HQ := Lib.hid (cut_more L k P f d hC.out _ hS.out hz)
          have hbq := hbd.out; rw [HQ.out] at hbq; obtain ⟨_, _, q1, q2, _⟩ := hbq; simp only at q1 q2
          clear hS hC HC hbd hz c91
          go_wp2
          go_roundw
          case rel => exact ⟨k + 1, f, g1, cap1, d + 1, P, by omega, by omega, by omega, by omega, by omega, by go_num, rfl, rfl, rfl, HQ, hP, hBel⟩
          case measure => simp [intOf]; omega
      have b91 : (c == 91) = false := by simpa using c91
      by_cases c41 : c = 41
      · have b41 : (c == 41) = true := by simpa using c41
        have hS := Lib.hid (show stp (L.getD k 0) = -1 from by rw [HC.out, c41]; decide)
        by_cases hz : d + (-1) = 0
        · have hb : ((d - 1) == 0) = true := by simp only [beq_iff_eq]; omega
          have HQ := Lib.hid (cut_done L k P f d hC.out _ hS.out hz)
          clear hS hC HC hbd c41
          go_wp2_with (first
            | (refine wpList_append_prs rfl (.tmp 29) (.tmp 37) rfl w.heap.size g1 cap1 (P.map (pv g)) (some ⟨g, f, none⟩) (k + 1 - f) (k + 1 - f) (by unfold prval; rw [hPn.out]; rfl) (hP.alloc _) ⟨wr.heap.size, 0, none⟩ 1 rfl ((Own.new _ _ _).cell 0) hPm (by simp; omega) ?_; intro g2 cap2 w2 hP2 hG2))
          have hB2 : Below w.heap.size w w2 := (hBel.alloc hsz _).grown hG2 (by simp; omega) (fun k e => by simp at e; omega)
          have e1 : (P.map (pv g)) ++ [Value.slice (some ⟨g, f, none⟩) (k + 1 - f) (k + 1 - f)] = (P ++ [(f, k + 1)]).map (pv g) := by rw [List.map_append]; rfl
          have e2 : ((P.map (pv g)) ++ [Value.slice (some ⟨g, f, none⟩) (k + 1 - f) (k + 1 - f)]).length = (P ++ [(f, k + 1)]).length := by simp
          rw [e1] at hP2
          clear hP hG2 e1
          go_wp2
          go_roundw
          case rel => exact ⟨k + 1, k + 1, g2, cap2, 0, P ++ [(f, k + 1)], by omega, by omega, by omega, by omega, by simp; omega, by go_num, by go_num, by congr 1 <;> omega, by unfold prval; rw [e2], HQ, hP2, hB2⟩
          case measure => simp [intOf]; omega
        · have hb : ((d - 1) == 0) = false := by simp only [beq_eq_false_iff_ne, ne_eq]; omega
          have HQ := Lib.hid (cut_more L k P f d hC.out _ hS.out hz)
          have hbq := hbd.out; rw [HQ.out] at hbq; obtain ⟨_, _, q1, q2, _⟩ := hbq; simp only at q1 q2
          clear hS hC HC hbd hz c41
          go_wp2
          go_roundw
          case rel => exact ⟨k + 1, f, g1, cap1, d + (-1), P, by omega, by omega, by omega, by omega, by omega, by go_num, rfl, by congr 1, rfl, HQ, hP, hBel⟩
          case measure => simp [intOf]; omega
      have b41 : (c == 41) = false := by simpa using c41
      by_cases c93 : c = 93
      · have b93 : (c == 93) = true := by simpa using c93
        have hS := Lib.hid (show stp (L.getD k 0) = -1 from by rw [HC.out, c93]; decide)
        by_cases hz : d + (-1) = 0
        · have hb : ((d - 1) == 0) = true := by simp only [beq_iff_eq]; omega
          have HQ := Lib.hid (cut_done L k P f d hC.out _ hS.out hz)
          clear hS hC HC hbd c93
          go_wp2_with (first
            | (refine wpList_append_prs rfl (.tmp 29) (.tmp 37) rfl w.heap.size g1 cap1 (P.map (pv g)) (some ⟨g, f, none⟩) (k + 1 - f) (k + 1 - f) (by unfold prval; rw [hPn.out]; rfl) (hP.alloc _) ⟨wr.heap.size, 0, none⟩ 1 rfl ((Own.new _ _ _).cell 0) hPm (by simp; omega) ?_; intro g2 cap2 w2 hP2 hG2))
          have hB2 : Below w.heap.size w w2 := (hBel.alloc hsz _).grown hG2 (by simp; omega) (fun k e => by simp at e; omega)
          have e1 : (P.map (pv g)) ++ [Value.slice (some ⟨g, f, none⟩) (k + 1 - f) (k + 1 - f)] = (P ++ [(f, k + 1)]).map (pv g) := by rw [List.map_append]; rfl
          have e2 : ((P.map (pv g)) ++ [Value.slice (some ⟨g, f, none⟩) (k + 1 - f) (k + 1 - f)]).length = (P ++ [(f, k + 1)]).length := by simp
          rw [e1] at hP2
          clear hP hG2 e1
          go_wp2
          go_roundw
          case rel => exact ⟨k + 1, k + 1, g2, cap2, 0, P ++ [(f, k + 1)], by omega, by omega, by omega, by omega, by simp; omega, by go_num, by go_num, by congr 1 <;> omega, by unfold prval; rw [e2], HQ, hP2, hB2⟩
          case measure => simp [intOf]; omega
        · have hb : ((d - 1) == 0) = false := by simp only [beq_eq_false_iff_ne, ne_eq]; omega
          have HQ := Lib.hid (cut_more L k P f d hC.out _ hS.out hz)
          have hbq := hbd.out; rw [HQ.out] at hbq; obtain ⟨_, _, q1, q2, _⟩ := hbq; simp only at q1 q2
          clear hS hC HC hbd hz c93
          go_wp2
          go_roundw
          case rel => exact ⟨k + 1, f, g1, cap1, d + (-1), P, by omega, by omega, by omega, by omega, by omega, by go_num, rfl, by congr 1, rfl, HQ, hP, hBel⟩
          case measure => simp [intOf]; omega
      have b93 : (c == 93) = false := by simpa using c93
      have hS := Lib.hid (show stp (L.getD k 0) = 0 from by unfold stp; rw [HC.out, if_neg (by omega), if_neg (by omega)])
      by_cases hz : d + 0 = 0
      · have hb : ((d) == 0) = true := by simp only [beq_iff_eq]; omega
        have HQ := Lib.hid (cut_done L k P f d hC.out _ hS.out hz)
        clear hS hC HC hbd
        obtain rfl : d = 0 := by omega
        go_wp2_with (first
          | (refine wpList_append_prs rfl (.tmp 29) (.tmp 37) rfl w.heap.size g1 cap1 (P.map (pv g)) (some ⟨g, f, none⟩) (k + 1 - f) (k + 1 - f) (by unfold prval; rw [hPn.out]; rfl) (hP.alloc _) ⟨wr.heap.size, 0, none⟩ 1 rfl ((Own.new _ _ _).cell 0) hPm (by simp; omega) ?_; intro g2 cap2 w2 hP2 hG2))
        have hB2 : Below w.heap.size w w2 := (hBel.alloc hsz _).grown hG2 (by simp; omega) (fun k e => by simp at e; omega)
        have e1 : (P.map (pv g)) ++ [Value.slice (some ⟨g, f, none⟩) (k + 1 - f) (k + 1 - f)] = (P ++ [(f, k + 1)]).map (pv g) := by rw [List.map_append]; rfl
        have e2 : ((P.map (pv g)) ++ [Value.slice (some ⟨g, f, none⟩) (k + 1 - f) (k + 1 - f)]).length = (P ++ [(f, k + 1)]).length := by simp
        rw [e1] at hP2
        clear hP hG2 e1
        go_wp2
        go_roundw
        case rel => exact ⟨k + 1, k + 1, g2, cap2, 0, P ++ [(f, k + 1)], by omega, by omega, by omega, by omega, by simp; omega, by go_num, by go_num, rfl, by unfold prval; rw [e2], HQ, hP2, hB2⟩
        case measure => simp [intOf]; omega
      · have hb : ((d) == 0) = false := by simp only [beq_eq_false_iff_ne, ne_eq]; omega
        have HQ := Lib.hid (cut_more L k P f d hC.out _ hS.out hz)
        have hbq := hbd.out; rw [HQ.out] at hbq; obtain ⟨_, _, q1, q2, _⟩ := hbq; simp only at q1 q2
        clear hS hC HC hbd hz
        go_wp2
        go_roundw
        case rel => exact ⟨k + 1, f, g1, cap1, d + 0, P, by omega, by omega, by omega, by omega, by omega, by go_num, rfl, by congr 1; omega, rfl, HQ, hP, hBel⟩
        case measure => simp [intOf]; omega
    · have hkN : k = N := by omega
      subst hkN
      go_wp2
      go_ret
      exact hpost.out P f d g1 cap1 _ hC.out hP hBel
end Go.Proofs.Ytpjlienelkflhaa
