/- ElementOf: the program and the model; results that are elements. ElementOf: the errors. (Written by geneob.py.) The laws' comparison of readable terms, and marks of slices of terms, and of elements. Marks of results that are elements; the law of ElementOf. k times an element is added to a sum: the program's loop. -/
import Derived.Test.YtbibmncepjmgcaaKg
import Derived.Test.YtbibmncepjmgcaaPutS
import Derived.Test.YtbibmncepjmgcaaKb
import Derived.Test.YtbibmncepjmgcaaKc
import Derived.Test.YtbibmncepjmgcaaKf
import Derived.StillTailTactics
import Derived.Test.YtbibmncepjmgcaaKa
namespace Go.Proofs.Ytbibmncepjmgcaa
open Go.RowKit Go.Lib
set_option linter.unusedVariables false
set_option linter.unusedSimpArgs false
/-- A result's terms: none, or in a block of the call's own. -/
def Res (w : World) (B : Nat) (q : Option Addr) (L : List Tm) : Prop := (q = none ∧ L = []) ∨ ∃ g, q = some ⟨g, 0, none⟩ ∧ MnT w B g L
theorem Res.below {w w' : World} {B D : Nat} {q : Option Addr} {L : List Tm} (h : Res w B q L) (hb : Below D w w') (hD : w.heap.size ≤ D) : Res w' B q L := by
  rcases h with h | ⟨g, e, h⟩
  · exact .inl h
  · exact .inr ⟨g, e, h.below hb (Nat.lt_of_lt_of_le h.lt hD)⟩
theorem Res.weak {w : World} {B B' : Nat} {q : Option Addr} {L : List Tm} (h : Res w B q L) (hb : B' ≤ B) : Res w B' q L := by
  rcases h with h | ⟨g, e, h⟩
  · exact .inl h
  · exact .inr ⟨g, e, h.weak hb⟩
theorem RowT.res {w : World} {base m c : Nat} {q : Option Addr} {L : List Tm} (h : RowT w base (.slice q m c) L) : m = L.length ∧ Res w base q L := by
  by_cases h0 : Value.slice q m c = .slice none 0 0
  · obtain ⟨h1, ⟨_, h2⟩ | ⟨g, cap, cur, hv, _⟩⟩ := h
    · cases h0
      exact ⟨h2.symm, .inl ⟨rfl, List.length_eq_zero_iff.1 h2⟩⟩
    · rw [h0] at hv; cases hv
  · obtain ⟨g, cap, e, hc, hM⟩ := h.mn h0
    cases e
    exact ⟨rfl, .inr ⟨g, rfl, hM⟩⟩
theorem Res.own {w : World} {B g : Nat} {L : List Tm} (h : MnT w B g L) : Res w B (some ⟨g, 0, none⟩) L := .inr ⟨g, rfl, h⟩
theorem Res.onl {w w' : World} {B b : Nat} {q : Option Addr} {L : List Tm} (h : Res w B q L) (hN : Only b w w') (hb : b < B) : Res w' B q L := by
  rcases h with h | ⟨g, e, h0, sp, ho⟩
  · exact .inl h
  · exact .inr ⟨g, e, h0, sp, ho.only hN (by omega)⟩
end Go.Proofs.Ytbibmncepjmgcaa
namespace Go.Proofs.Ytbibmncepjmgcaa
open Go.RowKit Go.Lib
set_option linter.unusedVariables false
set_option linter.unusedSimpArgs false
end Go.Proofs.Ytbibmncepjmgcaa
namespace Go.Proofs.Ytbibmncepjmgcaa
open Go.RowKit Go.Lib
set_option linter.unusedVariables false
set_option linter.unusedSimpArgs false
theorem eqTS_nil (p q : Option Addr) (cap cap' : Nat) (w : World) : Calls Try.prog 41 #[.slice p 0 cap, .slice q 0 cap'] w fun e w' => e = .returned (.bool true) ∧ Below w.heap.size w w' := by
  go_enter Try.func41, Try.ntmps41
  go_wp2
  go_loopw [5] (fun i wr => i = .int .i64 0 ∧ wr = w) (fun i _ => 0)
  case atStart => exact ⟨rfl, rfl⟩
  case round =>
    obtain ⟨rfl, rfl⟩ := hrel
    go_wp2
    go_ret
    exact ⟨rfl, Below.refl _ _⟩
set_option maxRecDepth 100000 in
set_option maxHeartbeats 1000000 in
theorem eqTS_rd (a b : Addr) (cap cap' : Nat) (ts : List Tm) (hts : ∀ t ∈ ts, t.2.1.length = 16) (hx : ts.length ≤ 1048576) (w : World) (hA : RdT w (some a) ts) (hB : RdT w (some b) ts) :
    Calls Try.prog 41 #[.slice (some a) ts.length cap, .slice (some b) ts.length cap'] w fun e w' => e = .returned (.bool true) ∧ Below w.heap.size w w' := by
  obtain ⟨n, hn⟩ : ∃ n, ts.length = n := ⟨_, rfl⟩
  have hA' := Lib.hid hA
  have hB' := Lib.hid hB
  have hT := Lib.hid hts
  have hN := Lib.hid hn
  rw [hn] at hx ⊢
  clear hA hB hn hts
  go_enter Try.func41, Try.ntmps41
  go_wp2
  go_loopw [5] (fun i wr => ∃ k : Nat, k ≤ n ∧ i = .int .i64 k ∧ Below w.heap.size w wr) (fun i _ => ((n : Int) - intOf i).toNat)
  case atStart => exact ⟨0, by omega, rfl, Below.refl _ _⟩
  case round =>
    obtain ⟨k, hk, rfl, hB⟩ := hrel
    by_cases hlt : k < n
    · have hkt : k < ts.length := by rw [hN.out]; exact hlt
      have rA := Lib.hid (fun wd (hd : Below w.heap.size w wd) => (hA'.out.below hd).cell _ rfl k hkt)
      have rB := Lib.hid (fun wd (hd : Below w.heap.size w wd) => (hB'.out.below hd).cell _ rfl k hkt)
      have ht16 : (ts.getD k zT).2.1.length = 16 := by rw [List.getD_eq_getElem?_getD, List.getElem?_eq_getElem hkt]; exact hT.out _ (List.getElem_mem hkt)
      generalize ts.getD k zT = t at *
      have hq := Lib.hid (fun w => eqT_same t ht16 w)
      have h18 := Lib.hid (tcl_len ht16)
      have hBw := Below.drew hB
      clear hkt ht16 hB
      go_wp2_with fail
      refine wp_region_still_tail 8 (by kernel_rfl) (by kernel_rfl) ?_
      change wpStill _ _ wr.drew (fun a' => wpList _ _ _ _ a' wr.drew) _ _
      generalize wr.drew = wd at *
      have qA := rA.out wd hBw
      have qB := rB.out wd hBw
      have hkn : (k : Int) < n := by omega
      simp only [List.take_succ_cons, List.take_zero, List.drop_succ_cons, List.drop_zero]
      still_step
      still_step
      still_step
      refine wpStill_step (fun K' hK' => ?_)
      rw [if_pos (by rfl)]
      refine still_load_at 56 (.tmp 19) rfl (a.add (k * 18)) (by first | rfl | simp) (tcl t) _ qA Try.underlying56 rfl (by rw [h18.out]; kernel_rfl) ?_
      refine hK' _ ?_
      clear hK' K'
      still_step
      still_step
      still_step
      refine wpStill_step (fun K' hK' => ?_)
      rw [if_pos (by rfl)]
      refine still_load_at 56 (.tmp 23) rfl (b.add (k * 18)) (by first | rfl | simp) (tcl t) _ qB Try.underlying56 rfl (by rw [h18.out]; kernel_rfl) ?_
      refine hK' _ ?_
      clear hK' K'
      refine wpStill_nil ?_
      go_wp2_with (first
        | ((go_at_call 82; ((with_reducible refine (hq.out _).mono ?_); rintro e w2 ⟨rfl, hB2⟩)); have b2 := hBw.trans (hB2.mono hBw.size)))
      go_roundw
      case rel => exact ⟨k + 1, by omega, by go_num, b2⟩
      case measure => simp [intOf]; omega
    · have hk2 : k = n := by omega
      subst hk2
      go_wp2
      go_ret
      exact ⟨rfl, hB⟩
theorem eqTS_any (p q : Option Addr) (cap cap' : Nat) (ts : List Tm) (hts : ∀ t ∈ ts, t.2.1.length = 16) (hx : ts.length ≤ 1048576) (w : World) (hA : RdT w p ts) (hB : RdT w q ts) :
    Calls Try.prog 41 #[.slice p ts.length cap, .slice q ts.length cap'] w fun e w' => e = .returned (.bool true) ∧ Below w.heap.size w w' := by
  by_cases h0 : ts = []
  · subst h0; exact eqTS_nil p q cap cap' w
  · cases p with
    | none => exact absurd (hA.nil rfl) h0
    | some a =>
      cases q with
      | none => exact absurd (hB.nil rfl) h0
      | some b => exact eqTS_rd a b cap cap' ts hts hx w hA hB
theorem RdT.al {w : World} {p : Option Addr} {ts : List Tm} (h : RdT w p ts) (o : Obj) : RdT (w.alloc o) p ts := h.below ((Below.refl _ w).alloc (Nat.le_refl _) o)
set_option maxRecDepth 100000 in
set_option maxHeartbeats 1000000 in
theorem eqE_any (p c n : Int) (a b : Option Addr) (cap cap' : Nat) (ts : List Tm) (hts : ∀ t ∈ ts, t.2.1.length = 16) (hx : ts.length ≤ 1048576) (w : World) (hA : RdT w a ts) (hB : RdT w b ts) :
    Calls Try.prog 13 #[.agg (ecl p c n (.slice a ts.length cap)), .agg (ecl p c n (.slice b ts.length cap'))] w fun e w' => e = .returned (.bool true) ∧ Below w.heap.size w w' := by
  have hq := Lib.hid (fun (A B : Obj) => eqTS_any a b cap cap' ts hts hx ((w.alloc A).alloc B) ((hA.al _).al _) ((hB.al _).al _))
  have h2 := Lib.hid (fun (A B : Obj) => show Below w.heap.size w ((w.alloc A).alloc B) from ((Below.refl _ w).alloc (Nat.le_refl _) A).alloc (by simp) B)
  obtain ⟨m, hm⟩ : ∃ m, ts.length = m := ⟨_, rfl⟩
  rw [hm] at hq hx ⊢
  unfold ecl
  clear hA hB hts hm
  go_enter Try.func13, Try.ntmps13
  go_wp2_with (first
    | (go_at_call 41; ((with_reducible refine (hq.out _ _).mono ?_); rintro e w1 ⟨rfl, hB1⟩)))
  go_ret
  exact ⟨rfl, (h2.out _ _).trans (hB1.mono (h2.out _ _).size)⟩
/-- What the laws write into the cell c, the first mark being s. -/
def mkW (s c : Nat) : Value := if 1 ≤ c % 18 ∧ c % 18 ≤ 16 then .int .u8 (((s : Int) + c) % 256) else .int .i64 ((s : Int) + c)
theorem mkW_size (s k : Nat) : mkW s (k * 18) = .int .i64 ((s : Int) + (k : Int) * 18) := by
  unfold mkW
  rw [if_neg (by omega)]
  simp
theorem mkW_mate (s k j : Nat) (h : j < 16) : mkW s (k * 18 + 1 + j) = .int .u8 (((s : Int) + (k : Int) * 18 + 1 + j) % 256) := by
  unfold mkW
  rw [if_pos (by omega)]
  congr 1
  omega
theorem mkW_fac (s k : Nat) : mkW s (k * 18 + 17) = .int .i64 ((s : Int) + (k : Int) * 18 + 17) := by
  unfold mkW
  rw [if_neg (by omega)]
  simp
  omega
/-- The first c cells of a block of S cells hold the marks. -/
def Mkw (w : World) (g S s c : Nat) : Prop := ∃ cs : Array Value, Own w g cs 56 ∧ cs.size = S ∧ ∀ j, j < c → cs[j]? = some (mkW s j)
theorem Mkw.cell {w : World} {g S s c : Nat} (h : Mkw w g S s c) (j : Nat) (hj : j < c) : w.cell? ⟨g, j, none⟩ = some (mkW s j) := by
  obtain ⟨cs, ho, _, hc⟩ := h
  rw [ho.cell]; exact hc j hj
theorem Mkw.room {w : World} {g S s c : Nat} (h : Mkw w g S s c) (j : Nat) (hj : j < S) : ∃ v, w.cell? ⟨g, j, none⟩ = some v := by
  obtain ⟨cs, ho, hs, hc⟩ := h
  exact ⟨cs[j], by rw [ho.cell, Array.getElem?_eq_getElem (by omega)]⟩
theorem Mkw.set {w : World} {g S s c : Nat} (h : Mkw w g S s c) (hc : c < S) (v : Value) (hv : v = mkW s c) : Mkw (w.setCell ⟨g, c, none⟩ v) g S s (c + 1) := by
  subst hv
  obtain ⟨cs, ho, hs, hh⟩ := h
  refine ⟨_, ho.set c (mkW s c), by simp [hs], fun j hj => ?_⟩
  by_cases e : j = c
  · subst e; simp [hs, hc]
  · rw [Array.getElem?_setIfInBounds_ne (fun h => e h.symm)]
    exact hh j (by omega)
theorem Mkw.below {w w' : World} {g S s c B : Nat} (h : Mkw w g S s c) (hb : Below B w w') (hB : g < B) : Mkw w' g S s c := by
  obtain ⟨cs, ho, h2⟩ := h
  exact ⟨cs, ho.below hb hB, h2⟩
theorem Mkw.lt {w : World} {g S s c : Nat} (h : Mkw w g S s c) : g < w.heap.size := by
  obtain ⟨cs, ho, h2⟩ := h
  exact ho.lt
theorem Mkw.only {w w' : World} {g g' S s c : Nat} (h : Mkw w g S s c) (hb : Only g' w w') (hB : g ≠ g') : Mkw w' g S s c := by
  obtain ⟨cs, ho, h2⟩ := h
  exact ⟨cs, ho.only hb hB, h2⟩
theorem Mkw.free {w : World} {g S s c : Nat} (h : Mkw w g S s c) (j : Nat) : w.frozen? ⟨g, j, none⟩ = false := by
  obtain ⟨cs, ho, _⟩ := h
  exact ho.free j
theorem MnT.mkw {w : World} {B g : Nat} {ts : List Tm} (h : MnT w B g ts) (h16 : L16 ts) (s : Nat) : ∃ S, ts.length * 18 ≤ S ∧ Mkw w g S s 0 := by
  obtain ⟨_, sp, ho⟩ := h
  refine ⟨_, ?_, _, ho, rfl, fun j hj => by omega⟩
  simp [tsl_len ts h16]
  omega
theorem markTS_nil (p : Option Addr) (cap : Nat) (s : Nat) (w : World) : Calls Try.prog 48 #[.slice p 0 cap, .int .i64 s] w fun e w' => e = .returned (.int .i64 s) ∧ w' = w := by
  go_enter Try.func48, Try.ntmps48
  go_wp2
  go_loopw [1, 5] (fun q i wr => q = .int .i64 s ∧ i = .int .i64 0 ∧ wr = w) (fun _ i _ => 0)
  case atStart => exact ⟨rfl, rfl, rfl⟩
  case round =>
    obtain ⟨rfl, rfl, rfl⟩ := hrel
    go_wp2
    go_ret
    exact ⟨rfl, rfl⟩
theorem heldTS_nil (p : Option Addr) (cap : Nat) (s : Nat) (w : World) : Calls Try.prog 49 #[.slice p 0 cap, .int .i64 s] w fun e w' => e = .returned (.int .i64 s) ∧ w' = w := by
  go_enter Try.func49, Try.ntmps49
  go_wp2
  go_loopw [1, 5] (fun q i wr => q = .int .i64 s ∧ i = .int .i64 0 ∧ wr = w) (fun _ i _ => 0)
  case atStart => exact ⟨rfl, rfl, rfl⟩
  case round =>
    obtain ⟨rfl, rfl, rfl⟩ := hrel
    go_wp2
    go_ret
    exact ⟨rfl, rfl⟩
set_option maxRecDepth 100000 in
set_option maxHeartbeats 1000000 in
theorem markTS_any (w : World) (g m cap S s : Nat) (hm : m ≤ 1048576) (hs : s ≤ 100000000) (hc : m * 18 ≤ S) (h : Mkw w g S s 0) :
    Calls Try.prog 48 #[.slice (some ⟨g, 0, none⟩) m cap, .int .i64 s] w fun e w' => e = .returned (.int .i64 ((s : Int) + (m : Int) * 18)) ∧ Mkw w' g S s (m * 18) ∧ Only g w w' := by
  go_enter Try.func48, Try.ntmps48
  go_wp2
  go_loopw [1, 5] (fun q i wr => ∃ k : Nat, k ≤ m ∧ i = .int .i64 k ∧ q = .int .i64 ((s : Int) + (k : Int) * 18) ∧ Mkw wr g S s (k * 18) ∧ Only g w wr) (fun _ i _ => (m - intOf i).toNat)
  case atStart => exact ⟨0, by omega, rfl, by simp, by simpa using h, Only.refl _ _⟩
  case round =>
    clear h
    obtain ⟨k, hk, rfl, rfl, hM, hO⟩ := hrel
    by_cases hlt : k < m
    · have kI : (k : Int) < (m : Int) := by omega
      obtain ⟨v0, hv0⟩ := hM.room (k * 18) (by omega)
      have f0 := hM.free (k * 18)
      have hM1 := Lib.hid (hM.set (by omega) (.int .i64 ((s : Int) + (k : Int) * 18)) (mkW_size s k).symm)
      have hO1 := Lib.hid (hO.trans (Only.set g (k * 18) wr (.int .i64 ((s : Int) + (k : Int) * 18))))
      clear hM hO
      go_wp2
      have nM := hM1.out
      have nO := hO1.out
      clear hM1 hO1 hv0 f0
      go_loopw [1, 6] (fun q j wj => ∃ c : Nat, c ≤ 16 ∧ j = .int .i64 c ∧ q = .int .i64 ((s : Int) + (k : Int) * 18 + 1 + c) ∧ Mkw wj g S s (k * 18 + 1 + c) ∧ Only g w wj) (fun _ j _ => (16 - intOf j).toNat)
      case atStart => exact ⟨0, by omega, rfl, by go_num, nM, nO⟩
      case round =>
        clear nM nO
        obtain ⟨c, hc16, rfl, rfl, hM, hO⟩ := hrel
        by_cases hl2 : c < 16
        · have cI : (c : Int) < 16 := by omega
          obtain ⟨v0, hv0⟩ := hM.room (k * 18 + 1 + c) (by omega)
          have f0 := hM.free (k * 18 + 1 + c)
          have hM1 := Lib.hid (hM.set (by omega) (.int .u8 (((s : Int) + (k : Int) * 18 + 1 + c) % 256)) (mkW_mate s k c hl2).symm)
          have hO1 := Lib.hid (hO.trans (Only.set g (k * 18 + 1 + c) _ (.int .u8 (((s : Int) + (k : Int) * 18 + 1 + c) % 256))))
          clear hM hO
          go_wp2
          go_roundw
          case rel => exact ⟨c + 1, by omega, by go_num, by go_num, hM1.out, hO1.out⟩
          case measure => simp [intOf]; omega
        · have e : c = 16 := by omega
          subst e
          obtain ⟨v0, hv0⟩ := hM.room (k * 18 + 17) (by omega)
          have f0 := hM.free (k * 18 + 17)
          have hM1 := Lib.hid (hM.set (by omega) (.int .i64 ((s : Int) + (k : Int) * 18 + 17)) (by rw [show k * 18 + 1 + 16 = k * 18 + 17 by omega]; exact (mkW_fac s k).symm))
          have hO1 := Lib.hid (hO.trans (Only.set g (k * 18 + 17) _ (.int .i64 ((s : Int) + (k : Int) * 18 + 17))))
          clear hM hO
          go_wp2
          go_roundw
          case rel => exact ⟨k + 1, by omega, by go_num, by go_num, by rw [show (k + 1) * 18 = k * 18 + 1 + 16 + 1 by omega]; exact hM1.out, hO1.out⟩
          case measure => simp [intOf]; omega
    · have e : k = m := by omega
      subst e
      go_wp2
      go_ret
      exact ⟨rfl, hM, hO⟩
set_option maxRecDepth 100000 in
set_option maxHeartbeats 1000000 in
theorem heldTS_any (w : World) (g m cap S s : Nat) (hm : m ≤ 1048576) (hs : s ≤ 100000000) (h : Mkw w g S s (m * 18)) :
    Calls Try.prog 49 #[.slice (some ⟨g, 0, none⟩) m cap, .int .i64 s] w fun e w' => e = .returned (.int .i64 ((s : Int) + (m : Int) * 18)) ∧ w' = w := by
  have hh := Lib.hid h
  clear h
  go_enter Try.func49, Try.ntmps49
  go_wp2
  go_loopw [1, 5] (fun q i wr => ∃ k : Nat, k ≤ m ∧ i = .int .i64 k ∧ q = .int .i64 ((s : Int) + (k : Int) * 18) ∧ wr = w) (fun _ i _ => (m - intOf i).toNat)
  case atStart => exact ⟨0, by omega, rfl, by simp, rfl⟩
  case round =>
    obtain ⟨k, hk, rfl, rfl, rfl⟩ := hrel
    by_cases hlt : k < m
    · have kI : (k : Int) < (m : Int) := by omega
      have c0 := hh.out.cell (k * 18) (by omega)
      rw [mkW_size] at c0
      go_wp2
      clear c0
      go_loopw [1, 6] (fun q j wj => ∃ c : Nat, c ≤ 16 ∧ j = .int .i64 c ∧ q = .int .i64 ((s : Int) + (k : Int) * 18 + 1 + c) ∧ wj = wr) (fun _ j _ => (16 - intOf j).toNat)
      case atStart => exact ⟨0, by omega, rfl, by go_num, rfl⟩
      case round =>
        obtain ⟨c, hc16, rfl, rfl, rfl⟩ := hrel
        by_cases hl2 : c < 16
        · have cI : (c : Int) < 16 := by omega
          have c0 := hh.out.cell (k * 18 + 1 + c) (by omega)
          rw [mkW_mate s k c hl2] at c0
          go_wp2
          go_roundw
          case rel => exact ⟨c + 1, by omega, by go_num, by go_num, trivial⟩
          case measure => simp [intOf]; omega
        · have e : c = 16 := by omega
          subst e
          have c0 := hh.out.cell (k * 18 + 17) (by omega)
          rw [mkW_fac] at c0
          go_wp2
          go_roundw
          case rel => exact ⟨k + 1, by omega, by go_num, by go_num, trivial⟩
          case measure => simp [intOf]; omega
    · have e : k = m := by omega
      subst e
      go_wp2
      go_ret
      exact ⟨rfl, rfl⟩
set_option maxRecDepth 100000 in
theorem markE_abs (p c n : Int) (q : Option Addr) (m cap : Nat) (s r : Int) (w : World) (K : World → Prop)
    (hT0 : Calls Try.prog 48 #[.slice q m cap, .int .i64 s] (w.alloc (.cells (ecl p c n (.slice q m cap)) 30)) fun e w' => e = .returned (.int .i64 r) ∧ K w') :
    Calls Try.prog 19 #[.agg (ecl p c n (.slice q m cap)), .int .i64 s] w fun e w' => e = .returned (.int .i64 r) ∧ K w' := by
  have hT := Lib.hid hT0
  clear hT0
  unfold ecl at *
  go_enter Try.func19, Try.ntmps19
  go_wp2_with (first
    | (go_at_call 48; ((with_reducible refine (hT.out).mono ?_); rintro e w1 ⟨rfl, hK1⟩)))
  go_ret
  exact ⟨rfl, hK1⟩
set_option maxRecDepth 100000 in
theorem heldE_abs (p c n : Int) (q : Option Addr) (m cap : Nat) (s r : Int) (hr : 0 ≤ r) (w : World) (K : World → Prop)
    (hT0 : Calls Try.prog 49 #[.slice q m cap, .int .i64 s] (w.alloc (.cells (ecl p c n (.slice q m cap)) 30)) fun e w' => e = .returned (.int .i64 r) ∧ K w') :
    Calls Try.prog 20 #[.agg (ecl p c n (.slice q m cap)), .int .i64 s] w fun e w' => e = .returned (.int .i64 r) ∧ K w' := by
  have hT := Lib.hid hT0
  have hr2 : ¬ r < 0 := by omega
  clear hT0
  unfold ecl at *
  go_enter Try.func20, Try.ntmps20
  go_wp2_with (first
    | (go_at_call 49; ((with_reducible refine (hT.out).mono ?_); rintro e w1 ⟨rfl, hK1⟩)))
  go_ret
  exact ⟨rfl, hK1⟩
end Go.Proofs.Ytbibmncepjmgcaa
namespace Go.Proofs.Ytbibmncepjmgcaa
open Go.RowKit Go.Lib
set_option linter.unusedVariables false
set_option linter.unusedSimpArgs false
/-- Only what q leads to may have turned. -/
structure Frg (q : Option Addr) (w w' : World) : Prop where
  size : w.heap.size ≤ w'.heap.size
  below : ∀ B, B ≤ w.heap.size → (∀ a, q = some a → B ≤ a.block) → Below B w w'
  other : ∀ j, j < w.heap.size → (∀ a, q = some a → j ≠ a.block) → w'.heap[j]? = w.heap[j]?
theorem Frg.own {q : Option Addr} {w w' : World} {b : Nat} {cs : Array Value} {t : TypeId} (h : Frg q w w') (hO : Own w b cs t) (hne : ∀ a, q = some a → b ≠ a.block) : Own w' b cs t := (h.other b hO.lt hne).trans hO
theorem Frg.res {q q' : Option Addr} {w w' : World} {B : Nat} {L : List Tm} (h : Frg q w w') (hR : Res w B q' L) (hne : ∀ a a', q = some a → q' = some a' → a'.block ≠ a.block) : Res w' B q' L := by
  rcases hR with hR | ⟨g, e, h0, sp, ho⟩
  · exact .inl hR
  · exact .inr ⟨g, e, h0, sp, h.own ho (fun a e' => hne a _ e' e)⟩
theorem Res.blk {w : World} {B : Nat} {q : Option Addr} {L : List Tm} (h : Res w B q L) : ∀ a, q = some a → B ≤ a.block ∧ a.block < w.heap.size := by
  rintro a e
  rcases h with ⟨h, _⟩ | ⟨g, e', hM⟩
  · rw [h] at e; cases e
  · rw [e'] at e; cases e
    exact ⟨hM.1, hM.lt⟩
theorem Res.rd {w : World} {B : Nat} {q : Option Addr} {L : List Tm} (h : Res w B q L) (h16 : L16 L) : RdT w q L := by
  rcases h with ⟨rfl, rfl⟩ | ⟨g, rfl, hM⟩
  · exact ⟨fun a e k hk => by simp at hk, fun _ => rfl⟩
  · exact hM.rd h16
def Mrk (w : World) (q : Option Addr) (L : List Tm) (s : Nat) : Prop := (q = none ∧ L = []) ∨ ∃ g S, q = some ⟨g, 0, none⟩ ∧ Mkw w g S s (L.length * 18)
theorem Mrk.below {w w' : World} {D s : Nat} {q : Option Addr} {L : List Tm} (h : Mrk w q L s) (hb : Below D w w') (hD : w.heap.size ≤ D) : Mrk w' q L s := by
  rcases h with h | ⟨g, S, e, h⟩
  · exact .inl h
  · exact .inr ⟨g, S, e, h.below hb (Nat.lt_of_lt_of_le h.lt hD)⟩
theorem Mrk.al {w : World} {s : Nat} {q : Option Addr} {L : List Tm} (h : Mrk w q L s) (o : Obj) : Mrk (w.alloc o) q L s := h.below ((Below.refl _ w).alloc (Nat.le_refl _) o) (Nat.le_refl _)
theorem Res.al {w : World} {B : Nat} {q : Option Addr} {L : List Tm} (h : Res w B q L) (o : Obj) : Res (w.alloc o) B q L := h.below ((Below.refl _ w).alloc (Nat.le_refl _) o) (Nat.le_refl _)
theorem markE_res (p c n : Int) (q : Option Addr) (cap s : Nat) (L : List Tm) (B : Nat) (w : World) (hL : L.length ≤ 1048576) (h16 : L16 L) (hs : s ≤ 100000000) (h : Res w B q L) :
    Calls Try.prog 19 #[.agg (ecl p c n (.slice q L.length cap)), .int .i64 (s : Int)] w fun e w' => e = .returned (.int .i64 ((s : Int) + (L.length : Int) * 18)) ∧ (Mrk w' q L s ∧ Frg q w w') := by
  rcases h with ⟨rfl, rfl⟩ | ⟨g, rfl, hM⟩
  · refine markE_abs p c n none 0 cap s _ w (fun w' => Mrk w' none [] s ∧ Frg none w w') ?_
    refine Calls.mono (markTS_nil none cap s _) ?_
    rintro e w' ⟨rfl, rfl⟩
    exact ⟨by simp, .inl ⟨rfl, rfl⟩, by simp, fun B hB _ => (Below.refl B w).alloc hB _, fun j hj _ => Below.heap_alloc _ _ _ hj⟩
  · obtain ⟨S, hS, hK⟩ := (hM.alloc (.cells (ecl p c n (.slice (some ⟨g, 0, none⟩) L.length cap)) 30)).mkw h16 s
    refine markE_abs p c n _ L.length cap s _ w (fun w' => Mrk w' (some ⟨g, 0, none⟩) L s ∧ Frg (some ⟨g, 0, none⟩) w w') ?_
    refine Calls.mono (markTS_any _ g L.length cap S s hL hs hS hK) ?_
    rintro e w' ⟨rfl, hK', hN⟩
    have hz := hN.size
    have hg := hM.lt
    refine ⟨rfl, .inr ⟨g, S, rfl, hK'⟩, by rw [hz]; simp, fun B hB hb => ?_, fun j hj hne => ?_⟩
    · exact ((Below.refl B w).alloc hB _).trans (hN.below.mono (hb _ rfl))
    · rw [hN.other j (hne _ rfl)]; exact Below.heap_alloc _ _ _ hj
theorem heldE_res (p c n : Int) (q : Option Addr) (cap s : Nat) (L : List Tm) (w : World) (hL : L.length ≤ 1048576) (hs : s ≤ 100000000) (h : Mrk w q L s) :
    Calls Try.prog 20 #[.agg (ecl p c n (.slice q L.length cap)), .int .i64 (s : Int)] w fun e w' => e = .returned (.int .i64 ((s : Int) + (L.length : Int) * 18)) ∧ Below w.heap.size w w' := by
  rcases h with ⟨rfl, rfl⟩ | ⟨g, S, rfl, hM⟩
  · refine heldE_abs p c n none 0 cap s _ (by simp) w (fun w' => Below w.heap.size w w') ?_
    refine Calls.mono (heldTS_nil none cap s _) ?_
    rintro e w' ⟨rfl, rfl⟩
    exact ⟨by simp, (Below.refl _ w).alloc (Nat.le_refl _) _⟩
  · refine heldE_abs p c n _ L.length cap s _ (by omega) w (fun w' => Below w.heap.size w w') ?_
    refine Calls.mono (heldTS_any _ g L.length cap S s hL hs (hM.below ((Below.refl _ w).alloc (Nat.le_refl _) _) hM.lt)) ?_
    rintro e w' ⟨rfl, rfl⟩
    exact ⟨rfl, (Below.refl _ w).alloc (Nat.le_refl _) _⟩
theorem res0 {F : Nat} {args : Array Value} {w : World} {code : Int} (h : Calls Try.prog F args w fun e w' => e = .returned (.tuple #[.agg (ecl 0 0 0 (.slice none 0 0)), .int .i64 code]) ∧ Below w.heap.size w w') :
    Calls Try.prog F args w fun e w' => (∃ q cap, e = .returned (.tuple #[.agg (ecl 0 0 0 (.slice q ([] : List Tm).length cap)), .int .i64 code]) ∧ Res w' w.heap.size q []) ∧ Below w.heap.size w w' :=
  Calls.mono h (fun e w' ⟨he, hb⟩ => ⟨⟨none, 0, he, .inl ⟨rfl, rfl⟩⟩, hb⟩)
end Go.Proofs.Ytbibmncepjmgcaa
namespace Go.Proofs.Ytbibmncepjmgcaa
open Go.RowKit Go.Lib
set_option linter.unusedVariables false
set_option linter.unusedSimpArgs false
theorem tcl_fac {dn : Int} {dm : List Int} {f : Int} (h : dm.length = 16) : (tcl (dn, dm, f))[17]? = some (.int .i64 f) := by
  have : (dcells dn dm).toList.length = 17 := dl17 h
  show ((dcells dn dm).toList ++ [Value.int .i64 f])[17]? = _
  rw [List.getElem?_append_right (by omega)]
  simp [this]
theorem tcl_dia {dn : Int} {dm : List Int} {f : Int} {j : Nat} {v : Value} (hv : (dcells dn dm).toList[j]? = some v) : (tcl (dn, dm, f))[j]? = some v := by
  unfold tcl
  rw [List.getElem?_append_left (List.getElem?_eq_some_iff.1 hv).1]
  exact hv
/-- k times the terms, added one after the other. -/
def smN (p k : Int) (ts L : List Tm) : List Tm := ts.foldl (fun A t => addT p (kTm t) (k * t.2.2) A) L
theorem smN_nil (p k : Int) (L : List Tm) : smN p k [] L = L := rfl
theorem smN_good {p k : Int} (hp : 0 < p) (ts : List Tm) : ∀ (L : List Tm), (∀ t ∈ ts, VD (kTm t)) → GoodT p L → GoodT p (smN p k ts L) := by
  induction ts with
  | nil => intro L _ h; exact h
  | cons t ts ih =>
    intro L hv h
    exact ih _ (fun x hx => hv x (by simp [hx])) (add_good linD hp (hv t (by simp)) h)
theorem smN_take (p k : Int) (ts L : List Tm) (i : Nat) (hi : i < ts.length) : smN p k (ts.take (i + 1)) L = addT p (kTm ts[i]) (k * ts[i].2.2) (smN p k (ts.take i) L) := by
  rw [← List.take_append_getElem hi]
  unfold smN
  rw [List.foldl_append]
  rfl
theorem RdT.grown {w w' : World} {q : Option Addr} {ts : List Tm} {b nn : Nat} {L : List Tm} (h : RdT w q ts) (hM : Smp w b nn L) (hg : w.grownBy w' (some b)) : RdT w' q ts := by
  refine ⟨fun a e k hk j v hv => ?_, h.nil⟩
  have hc := h.cell a e k hk j v hv
  refine hg.cell hc ?_
  intro e2
  obtain ⟨D, ⟨es, clock, hh, r⟩, h2⟩ := hM
  have hb : ((a.add (k * 18)).add j).block = b := by injection e2
  unfold World.cell? at hc
  rw [hb, hh] at hc
  simp at hc
end Go.Proofs.Ytbibmncepjmgcaa
