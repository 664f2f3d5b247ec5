/- The laws' own copies of terms. -/
import Derived.Test.YtdmgmhjclagnpaaTerm
import Derived.Test.YtdmgmhjclagnpaaSl
namespace Go.Proofs.Ytdmgmhjclagnpaa
open Go.RowKit
set_option linter.unusedVariables false
def zT : Tm := (0, zeros, 0)
/-- The terms that can be read through a slice's pointer. -/
structure RdT (w : World) (p : Option Addr) (ts : List Tm) : Prop where
  cell : ∀ a, p = some a → ∀ k, k < ts.length → ∀ j v, (tcl (ts.getD k zT))[j]? = some v → w.cell? ((a.add (k * 18)).add j) = some v
  nil : p = none → ts = []
theorem RdT.below {w w' : World} {p : Option Addr} {ts : List Tm} (h : RdT w p ts) (hb : Below w.heap.size w w') : RdT w' p ts := by
  refine ⟨fun a e k hk j v hv => ?_, h.nil⟩
  have hc := h.cell a e k hk j v hv
  have hlt : ((a.add (k * 18)).add j).block < w.heap.size := by
    refine Decidable.byContradiction fun hn => ?_
    unfold World.cell? at hc
    rw [Array.getElem?_eq_none (by omega)] at hc
    simp at hc
  have : w'.cell? ((a.add (k * 18)).add j) = w.cell? ((a.add (k * 18)).add j) := by unfold World.cell?; rw [hb.block _ hlt]
  rw [this]; exact hc
theorem tsl_app (xs ys : List Tm) : tsl (xs ++ ys) = tsl xs ++ tsl ys := by simp [tsl]
theorem tsl_cons (x : Tm) (ys : List Tm) : tsl (x :: ys) = tcl x ++ tsl ys := by simp [tsl]
theorem zT_len : (tcl zT).length = 18 := tcl_len zlen
theorem info52 : (Try.prog.info? 66).map (fun i => (i.zero, i.size, i.bytes)) = some (some (.agg (tcl zT).toArray), 18, 32) := by kernel_rfl
theorem rep_get (n : Nat) (i : Nat) (h : i < 18 * n) : (tsl (List.replicate n zT))[i]? = (tcl zT)[i % 18]? := by
  induction n generalizing i with
  | zero => omega
  | succ n ih =>
    rw [List.replicate_succ, tsl_cons]
    by_cases h2 : i < 18
    · rw [List.getElem?_append_left (by rw [zT_len]; exact h2), Nat.mod_eq_of_lt h2]
    · rw [List.getElem?_append_right (by rw [zT_len]; omega), zT_len, ih (i - 18) (by omega)]
      congr 1; omega
theorem rep_len (n : Nat) : (tsl (List.replicate n zT)).length = 18 * n := by
  have := tsl_len (List.replicate n zT) (fun t ht => by rw [List.eq_of_mem_replicate ht]; exact zlen)
  simpa using this
theorem madeT (n : Nat) : madeCells (tcl zT).toArray (n * 18) = (tsl (List.replicate n zT)).toArray := by
  apply Array.toList_inj.1
  unfold madeCells
  rw [Array.toList_map, Array.toList_range]
  apply List.ext_getElem?
  intro i
  rw [List.getElem?_map]
  have hs : (tcl zT).toArray.size = 18 := by rw [List.size_toArray]; exact zT_len
  by_cases h : i < n * 18
  · rw [List.getElem?_range h, rep_get n i (by omega), Option.map_some, hs]
    have h3 : i % 18 < (tcl zT).length := by rw [zT_len]; omega
    have h4 : i % 18 < (tcl zT).toArray.size := by rw [hs]; omega
    rw [List.getElem?_eq_getElem h3, getElem!_pos (tcl zT).toArray (i % 18) h4]; rfl
  · rw [List.getElem?_eq_none (by simp; omega), List.getElem?_eq_none (by rw [rep_len]; omega)]; rfl
set_option maxRecDepth 100000 in
theorem makeT (n : Nat) (hn : n ≤ 1048576) : ∀ w : World, (Instr.makeSlice 22 (.int .i64 n) (.int .i64 n)).run Try.prog w = .ok (.slice (some ⟨w.heap.size, 0, none⟩) n n) (w.alloc (.cells (tsl (List.replicate n zT)).toArray 66)) := by
  intro w
  obtain ⟨i0, hi0, hz0, hz1, hz2⟩ := info_parts info52
  have := run_make w 22 66 i0 (.agg (tcl zT).toArray) Try.underlying22 hi0 hz0 .i64 .i64 (n : Int) (n : Int) (by omega) (by omega) (by rw [hz2]; omega) (by omega)
  rw [this, hz1]
  simp only [Int.toNat_natCast]
  rw [← madeT]
  rfl
/-- The first k terms, and empty ones behind them. -/
def cpT (ts : List Tm) (k : Nat) : List Tm := ts.take k ++ List.replicate (ts.length - k) zT
theorem cpT_cut (ts : List Tm) (k : Nat) (h : k < ts.length) : tsl (cpT ts k) = tsl (ts.take k) ++ tcl zT ++ tsl (List.replicate (ts.length - (k + 1)) zT) := by
  rw [cpT, tsl_app, show ts.length - k = (ts.length - (k + 1)) + 1 by omega, List.replicate_succ, tsl_cons, List.append_assoc]
theorem cpT_next (ts : List Tm) (k : Nat) (h : k < ts.length) : tsl (ts.take k) ++ tcl (ts.getD k zT) ++ tsl (List.replicate (ts.length - (k + 1)) zT) = tsl (cpT ts (k + 1)) := by
  rw [cpT, tsl_app, List.take_add_one, tsl_app, List.getD_eq_getElem?_getD, List.getElem?_eq_getElem h]
  simp [tsl]
theorem cpT_end (ts : List Tm) : cpT ts ts.length = ts := by simp [cpT]
theorem cpT_zero (ts : List Tm) : cpT ts 0 = List.replicate ts.length zT := by simp [cpT]
set_option maxRecDepth 100000 in
set_option maxHeartbeats 1000000 in
theorem toTS_any (p : Option Addr) (cap : Nat) (ts : List Tm) (hts : ∀ t ∈ ts, t.2.1.length = 16) (hx : ts.length ≤ 1048576) (w : World) (hR : RdT w p ts) :
    Calls Try.prog 41 #[.slice p ts.length cap] w fun e w' => e = .returned (.slice (some ⟨w.heap.size, 0, none⟩) ts.length ts.length) ∧ Own w' w.heap.size (tsl ts).toArray 66 ∧ Below w.heap.size w w' := by
  have hmk := makeT ts.length hx
  obtain ⟨n, hn⟩ : ∃ n, ts.length = n := ⟨_, rfl⟩
  have hR' := Lib.hid hR
  have hT := Lib.hid hts
  have hz := Lib.hid (cpT_zero ts)
  rw [hn] at hmk hx hz ⊢
  have hN := Lib.hid hn
  clear hR hn hts
  go_enter Try.func41, Try.ntmps41
  go_wp2
  clear hmk
  go_loopw [4] (fun i wr => ∃ k : Nat, k ≤ n ∧ i = .int .i64 k ∧ Own wr w.heap.size (tsl (cpT ts k)).toArray 66 ∧ Below w.heap.size w wr) (fun i _ => ((n : Int) - intOf i).toNat)
  case atStart => exact ⟨0, by omega, rfl, by rw [hz.out]; exact Own.new _ _ _, (Below.refl _ _).alloc (Nat.le_refl _) _⟩
  case round =>
    obtain ⟨k, hk, rfl, hO, hB⟩ := hrel
    by_cases hlt : k < n
    · have hkt : k < ts.length := by rw [hN.out]; exact hlt
      cases p with
      | none => exfalso; have h1 := hR'.out.nil rfl; rw [h1] at hkt; simp at hkt
      | some a =>
        have hc := Lib.hid ((hR'.out.below hB).cell a rfl k hkt)
        have hO1 : Own wr w.heap.size (tsl (ts.take k) ++ tcl zT ++ tsl (List.replicate (ts.length - (k + 1)) zT)).toArray 66 := by rw [← cpT_cut ts k hkt]; exact hO
        have hAl := Lib.hid (show (tsl (ts.take k)).length = k * 18 by
          rw [tsl_len _ (fun t ht => hT.out t (List.mem_of_mem_take ht)), List.length_take, Nat.min_eq_left (by omega), Nat.mul_comm])
        have hnx := Lib.hid (cpT_next ts k hkt)
        obtain ⟨t, ht⟩ : ∃ t, ts.getD k zT = t := ⟨_, rfl⟩
        have ht16 : t.2.1.length = 16 := by rw [← ht, List.getD_eq_getElem?_getD, List.getElem?_eq_getElem hkt]; exact hT.out _ (List.getElem_mem hkt)
        have h18 := Lib.hid (tcl_len ht16)
        have hto := Lib.hid (fun w => toT_any t ht16 w)
        rw [ht] at hc hnx
        clear ht hkt ht16 hO
        go_wp2_with (first
          | (refine wpList_load_at rfl 91 (.tmp 18) rfl (a.add (k * 18)) rfl (tcl t) _ hc.out Try.underlying91 rfl (by rw [h18.out]; kernel_rfl) ?_)
          | ((go_at_call 67; ((with_reducible refine (hto.out _).mono ?_); rintro e w2 ⟨rfl, hB2⟩)); have hO2 := hO1.below hB2 hO1.lt; have b2 := hB.trans (hB2.mono hB.size))
          | (refine wpList_store_part rfl 66 (.tmp 21) (.tmp 20) rfl w.heap.size (tsl (ts.take k)) (tcl zT) (tsl (List.replicate (ts.length - (k + 1)) zT)) (tcl t).toArray (by rw [hAl.out]; first | rfl | simp) rfl (by rw [List.size_toArray, h18.out, zT_len]) 66 hO2 (row52 (by rw [List.size_toArray, h18.out])) (one_tcl _) ?_; intro w3 hO3 hN3; have b3 := b2.trans (hN3.below.mono (Nat.le_refl _)); rw [hnx.out] at hO3))
        go_roundw
        case rel => exact ⟨k + 1, by omega, by go_num, hO3, b3⟩
        case measure => simp [intOf]; omega
    · have hk2 : k = n := by omega
      subst hk2
      have hE := Lib.hid (show Own wr w.heap.size (tsl ts).toArray 66 by rw [← cpT_end ts, hN.out]; exact hO)
      go_wp2
      go_ret
      exact ⟨rfl, hE.out, hB⟩
end Go.Proofs.Ytdmgmhjclagnpaa
