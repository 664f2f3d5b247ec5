/- The permutation of a braid word: program and model. -/
import Derived.Test.YtfhplhnaijhjlaaBrd
import Derived.Test.YtfhplhnaijhjlaaLst
import Derived.Test.YtfhplhnaijhjlaaMark
import Derived.RegionTactic
namespace Go.Proofs.Ytfhplhnaijhjlaa
open Go.RowKit
set_option linter.unusedVariables false
/-- The place of a crossing. -/
def plc (x : Int) : Nat := x.natAbs - 1
theorem placeI_any (x : Int) (w : World) (h0 : -1000 ≤ x) (h1 : x ≤ 1000) (hx : x ≠ 0) :
    Calls Try.prog 49 #[.int .i64 x] w fun e w' => e = .returned (.int .i64 (plc x : Nat)) ∧ w' = w := by
  by_cases h : 0 < x
  · have e : ((plc x : Nat) : Int) = x - 1 := by unfold plc; omega
    have m : max x (-x) = x := by omega
    rw [e]
    go_enter Try.func49, Try.ntmps49
    go_wp2
    go_ret
    exact ⟨rfl, rfl⟩
  · have e : ((plc x : Nat) : Int) = -x - 1 := by unfold plc; omega
    have m : max x (-x) = -x := by omega
    rw [e]
    go_enter Try.func49, Try.ntmps49
    go_wp2
    go_ret
    exact ⟨rfl, rfl⟩
/-- The strands at the places, from the left, after crossings. -/
def ramp (n : Nat) : List Int := (List.range n).map fun (j : Nat) => (j : Int)
theorem ramp_len (n : Nat) : (ramp n).length = n := by simp [ramp]
theorem ramp_get (n j : Nat) (h : j < n) : (ramp n).getD j 0 = j := by simp [ramp, h]
theorem ramp_step (k : Nat) : ramp (k + 1) = ramp k ++ [(k : Int)] := by simp [ramp, List.range_succ]
def bat (n : Nat) (xs : List Int) : List Int := xs.foldl (fun l x => sw l (plc x)) (ramp n)
theorem bat_step (n : Nat) (xs : List Int) (k : Nat) (h : k < xs.length) : bat n (xs.take (k + 1)) = sw (bat n (xs.take k)) (plc (xs.getD k 0)) := by
  unfold bat
  rw [List.take_succ_eq_append_getElem h, List.foldl_append, List.getD_eq_getElem?_getD, List.getElem?_eq_getElem h]; rfl
/-- As long as n, entries below n. -/
def Sml (n : Nat) (l : List Int) : Prop := l.length = n ∧ ∀ j, j < n → 0 ≤ l.getD j 0 ∧ l.getD j 0 < n
theorem Sml.ramp (n : Nat) : Sml n (ramp n) := ⟨ramp_len n, fun j h => by rw [ramp_get n j h]; omega⟩
theorem getD_set (l : List Int) (i j : Nat) (x : Int) (h : i < l.length) : (l.set i x).getD j 0 = if i = j then x else l.getD j 0 := by
  rw [List.getD_eq_getElem?_getD, List.getElem?_set, List.getD_eq_getElem?_getD]
  by_cases e : i = j
  · subst e; simp [h]
  · simp [e]
theorem Sml.sw {n : Nat} {l : List Int} (h : Sml n l) (i : Nat) (hi : i + 1 < n) : Sml n (sw l i) := by
  obtain ⟨h1, h2⟩ := h
  refine ⟨by simp [Go.Proofs.Ytfhplhnaijhjlaa.sw, h1], fun j hj => ?_⟩
  have a := h2 i (by omega)
  have b := h2 (i + 1) hi
  have c := h2 j hj
  unfold Go.Proofs.Ytfhplhnaijhjlaa.sw
  rw [getD_set _ _ _ _ (by simp; omega), getD_set _ _ _ _ (by omega)]
  split
  · exact a
  · split
    · exact b
    · exact c
theorem Sml.bat (n : Nat) : ∀ (xs : List Int) (l : List Int), Sml n l → (∀ x ∈ xs, plc x + 1 < n) → Sml n (xs.foldl (fun l x => Go.Proofs.Ytfhplhnaijhjlaa.sw l (plc x)) l)
  | [], l, h, _ => h
  | x :: xs, l, h, hx => Sml.bat n xs _ (h.sw _ (hx x (List.mem_cons_self ..))) (fun y hy => hx y (List.mem_cons_of_mem _ hy))
theorem plc_lt {n : Int} {xs : List Int} (h : brdB n xs = true) : ∀ x ∈ xs, plc x + 1 < n.toNat := by
  intro x hx
  have h1 := (brdB_t h).2 x hx
  have h2 := (brdB_t h).1
  unfold plc; omega
theorem bat_sml {n : Int} {xs : List Int} (h : brdB n xs = true) (k : Nat) : Sml n.toNat (bat n.toNat (xs.take k)) :=
  Sml.bat _ _ _ (Sml.ramp _) (fun x hx => plc_lt h x (List.mem_of_mem_take hx))
/-- The inverse list, from the first k entries. -/
def inv (l : List Int) : Nat → List Int
  | 0 => List.replicate l.length 0
  | k + 1 => (inv l k).set (l.getD k 0).toNat k
theorem inv_len (l : List Int) : ∀ k, (inv l k).length = l.length
  | 0 => by simp [inv]
  | k + 1 => by rw [inv, List.length_set, inv_len l k]
/-- The permutation. -/
def bprm (n : Int) (xs : List Int) : List Int := inv (bat n.toNat xs) n.toNat
theorem bprm_len {n : Int} {xs : List Int} (h : brdB n xs = true) : (bprm n xs).length = n.toNat := by
  have := (bat_sml h xs.length).1
  rw [List.take_length] at this
  rw [bprm, inv_len, this]
theorem Own.ints {w : World} {base g : Nat} {xs : List Int} (h : Own w g (icells xs) 2) (hb : base ≤ g) (hl : xs.length ≤ maxLen) : Ints w base g xs.length xs :=
  ⟨hb, Nat.le_refl _, hl, _, h, by simp [icells], by rw [List.take_of_length_le (by simp [icells])]; simp [icells]⟩
set_option maxRecDepth 100000 in
set_option maxHeartbeats 2000000 in
theorem endsI_any (n : Int) (p : Option Addr) (cap : Nat) (xs : List Int) (w : World) (hR : Rd w p xs) (h : brdB n xs = true) :
    Calls Try.prog 37 #[.int .i64 n, .slice p xs.length cap] w fun e w' => (∃ p' cap', e = .returned (.slice p' (bprm n xs).length cap') ∧ Mn w' w.heap.size p' (bprm n xs)) ∧ Below w.heap.size w w' := by
  obtain ⟨N, hNN⟩ : ∃ N : Nat, n = N := ⟨n.toNat, by have := (brdB_t h).1.1; omega⟩
  subst hNN
  obtain ⟨⟨n2, n6, h24⟩, hall⟩ := brdB_t h
  have hok := Lib.hid (fun k (hk : k < xs.length) => show -6 ≤ xs.getD k 0 ∧ xs.getD k 0 ≤ 6 ∧ xs.getD k 0 ≠ 0 ∧ plc (xs.getD k 0) + 1 < N by
    have hm : xs.getD k 0 ∈ xs := by rw [List.getD_eq_getElem?_getD, List.getElem?_eq_getElem hk]; exact List.getElem_mem hk
    have h1 := hall _ hm
    have h2 := plc_lt h _ hm
    rw [Int.toNat_natCast] at h2
    exact ⟨by omega, by omega, h1.1, h2⟩)
  have hbs := Lib.hid (fun k => show Sml N (bat N (xs.take k)) from bat_sml h k)
  have hst := Lib.hid (bat_step N xs)
  have hb0 := Lib.hid (show bat N (xs.take 0) = ramp N by simp [bat])
  obtain ⟨m, hm⟩ : ∃ m, xs.length = m := ⟨_, rfl⟩
  have hN := Lib.hid hm
  have hR' := Lib.hid hR
  have hrl := Lib.hid (ramp_len N)
  have hend := Lib.hid (show bat N (xs.take m) = bat N xs by rw [List.take_of_length_le (by omega)])
  have hbp := Lib.hid (show inv (bat N xs) N = bprm N xs by rw [bprm, Int.toNat_natCast])
  have hbl := Lib.hid (show (bat N xs).length = N by rw [← hend.out]; exact (hbs.out m).1)
  have hinl := Lib.hid (inv_len (bat N xs))
  have hpl := Lib.hid (show (bprm N xs).length = N by rw [bprm_len h, Int.toNat_natCast])
  have hmk := Lib.hid (makeI N (by omega))
  rw [hm] at h24 ⊢
  clear hR h hall hm
  have hmk1 := hmk.out
  have hz := Lib.hid (show icells (List.replicate N 0) = icells (cpI (ramp N) 0) by simp [cpI, hrl.out])
  have hpI := Lib.hid (fun x w h0 h1 hx => placeI_any x w h0 h1 hx)
  go_enter Try.func37, Try.ntmps37
  go_wp2
  clear hmk1
  go_loopw [15] (fun i wr => ∃ k : Nat, k ≤ N ∧ i = .int .i64 k ∧ Own wr w.heap.size (icells (cpI (ramp N) k)) 2 ∧ Below w.heap.size w wr) (fun i _ => ((N : Int) - intOf i).toNat)
  case atStart => exact ⟨0, by omega, rfl, by rw [← hz.out]; exact Own.new _ _ _, (Below.refl _ _).alloc (Nat.le_refl _) _⟩
  case round =>
    obtain ⟨k, hk, rfl, hO, hB⟩ := hrel
    by_cases hlt : k < N
    · have hl := Lib.hid (cpI_len (ramp N) k (by rw [hrl.out]; omega))
      have c2 := hO.cell k
      rw [icells_get _ _ (by rw [hl.out, hrl.out]; exact hlt)] at c2
      have f2 := hO.free k
      have hO2 := hO.set k (.int .i64 ((ramp N).getD k 0))
      rw [icells_set, cpI_set _ _ (by rw [hrl.out]; exact hlt)] at hO2
      have hB2 := hB.setCell (p := ⟨w.heap.size, k, none⟩) (by simp) (.int .i64 ((ramp N).getD k 0))
      rw [ramp_get N k hlt] at hO2 hB2
      have K1 := Lib.hid hO2
      clear hO2
      go_wp2
      go_roundw
      case rel => exact ⟨k + 1, by omega, by go_num, K1.out, hB2⟩
      case measure => simp [intOf]; omega
    · have hk2 : k = N := by omega
      subst hk2
      have hE := Lib.hid (show Ints wr w.heap.size w.heap.size k (bat k (xs.take 0)) by
        have hO3 : Own wr w.heap.size (icells (ramp k)) 2 := by
          have := cpI_end (ramp k)
          rw [hrl.out] at this
          rw [← this]; exact hO
        have := hO3.ints (Nat.le_refl _) (by rw [hrl.out]; unfold maxLen; omega)
        rw [hrl.out] at this
        rw [hb0.out]; exact this)
      clear hO
      go_wp2
      go_loopw [25] (fun i w2 => ∃ j : Nat, j ≤ m ∧ i = .int .i64 j ∧ Ints w2 w.heap.size w.heap.size k (bat k (xs.take j)) ∧ Below w.heap.size w w2) (fun i _ => ((m : Int) - intOf i).toNat)
      case atStart => exact ⟨0, by omega, rfl, hE.out, hB⟩
      case round =>
        clear hE hB
        obtain ⟨j, hj, rfl, hI, hB⟩ := hrel
        obtain ⟨w2, rfl⟩ : ∃ x, x = wr := ⟨_, rfl⟩
        by_cases hlt2 : j < m
        · have hks : j < xs.length := by rw [hN.out]; exact hlt2
          obtain ⟨a, rfl⟩ := rd_some hR'.out hks
          have c1 := (hR'.out.below hB).cell a rfl j hks
          obtain ⟨o1, o2, o3, o4⟩ := hok.out j hks
          have hs2 := hst.out j hks
          have hlb := (hbs.out j).1
          generalize xs.getD j 0 = x at *
          have hpx := Lib.hid (fun w => hpI.out x w (by omega) (by omega) o3)
          have hex := Lib.hid (exNext_any w.heap.size w.heap.size k (bat k (xs.take j)) (plc x) (by omega) (by omega) w2 hI)
          have hs3 := Lib.hid hs2
          have i1 : (j : Int) < (m : Int) := by omega
          have hl3 := Lib.hid hlb
          unfold ival at hex
          rw [hlb] at hex
          clear hs2 hks o3 o4 hlb
          go_wp2_with (first
            | (go_at_call 49; ((with_reducible refine (hpx.out _).mono ?_); rintro e w3 ⟨rfl, rfl⟩))
            | (go_at_call 48; ((with_reducible refine (hex.out).mono ?_); rintro e w4 ⟨rfl, hI4, hY4⟩)))
          have hB4 := hB.trans (hY4.below.mono (Nat.le_refl _))
          go_roundw
          case rel => exact ⟨j + 1, by omega, by go_num, by rw [hs3.out]; exact hI4, hB4⟩
          case measure => simp [intOf]; omega
        · have hj2 : j = m := by omega
          subst hj2
          rw [hend.out] at hI
          have hmk2 := hmk.out
          have hsz := hB.size
          have hI3 := Lib.hid (hI.alloc (.cells (icells (List.replicate k 0)) 2))
          have hB3 := Lib.hid (hB.alloc hsz (.cells (icells (List.replicate k 0)) 2))
          have hO3 := Lib.hid (show Own (w2.alloc (.cells (icells (List.replicate k 0)) 2)) w2.heap.size (icells (inv (bat k xs) 0)) 2 by
            rw [inv, hbl.out]; exact Own.new _ _ _)
          have hne := Lib.hid (show w.heap.size ≠ w2.heap.size from Nat.ne_of_lt hI.lt)
          have hsml := Lib.hid (show Sml k (bat k xs) by rw [← hend.out]; exact hbs.out j)
          clear hI hB
          go_wp2
          clear hmk2
          go_loopw [38] (fun i w5 => ∃ l : Nat, l ≤ k ∧ i = .int .i64 l ∧ Ints w5 w.heap.size w.heap.size k (bat k xs) ∧ Own w5 w2.heap.size (icells (inv (bat k xs) l)) 2 ∧ Below w.heap.size w w5) (fun i _ => ((k : Int) - intOf i).toNat)
          case atStart => exact ⟨0, by omega, rfl, hI3.out, hO3.out, hB3.out⟩
          case round =>
            clear hI3 hO3 hB3
            obtain ⟨l, hl, rfl, hI, hO, hB⟩ := hrel
            obtain ⟨w5, rfl⟩ : ∃ x, x = wr := ⟨_, rfl⟩
            by_cases hlt3 : l < k
            · have c1 := hI.cell l (by rw [hbl.out]; exact hlt3)
              have rg := hsml.out.2 l hlt3
              have hlen := hinl.out l
              have hset : Own (w5.setCell ⟨w2.heap.size, ((bat k xs).getD l 0).toNat, none⟩ (.int .i64 l)) w2.heap.size (icells (inv (bat k xs) (l + 1))) 2 := by
                have := hO.set ((bat k xs).getD l 0).toNat (.int .i64 l)
                rw [icells_set] at this
                exact this
              obtain ⟨y, hy⟩ : ∃ y : Nat, (bat k xs).getD l 0 = y := ⟨((bat k xs).getD l 0).toNat, by omega⟩
              rw [hy] at c1 rg hset
              rw [Int.toNat_natCast] at hset
              have c2 := hO.cell y
              rw [icells_get _ _ (by rw [hlen, hbl.out]; omega)] at c2
              have f2 := hO.free y
              have hI2 := hI.only (Only.set w2.heap.size y w5 (.int .i64 l)) hne.out
              have hB2 := hB.setCell (p := ⟨w2.heap.size, y, none⟩) (by simpa using hsz) (.int .i64 l)
              have K1 := Lib.hid hset
              have K2 := Lib.hid hI2
              have y1 : (y : Int) < k := rg.2
              clear hset hI2 hlen hy
              go_wp2
              go_roundw
              case rel => exact ⟨l + 1, by omega, by go_num, K2.out, K1.out, hB2⟩
              case measure => simp [intOf]; omega
            · have hl2 : l = k := by omega
              subst hl2
              rw [hbp.out] at hO
              have hM := Mn.new hsz hO
              go_wp2
              go_ret
              exact ⟨⟨_, _, by rw [hpl.out]; rfl, hM⟩, hB⟩
end Go.Proofs.Ytfhplhnaijhjlaa
