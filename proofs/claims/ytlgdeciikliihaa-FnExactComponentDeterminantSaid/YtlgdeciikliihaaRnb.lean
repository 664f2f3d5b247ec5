/- The systems of m arches as arches; the program's list of them. -/
import Derived.Test.YtlgdeciikliihaaSyo
import Derived.Test.YtlgdeciikliihaaRbw
import Derived.Test.YtlgdeciikliihaaCtc
namespace Go.Proofs.Ytlgdeciikliihaa
open Go.RowKit
set_option linter.unusedVariables false
set_option linter.unusedSimpArgs false
/-- The arches of a text, if it has them. -/
def sysO (t : List UInt8) : List Int := (sarc t).getD []
theorem all_sys0 (m : Nat) (h1 : 1 ≤ m) (h6 : m ≤ 6) : (allH (2 * m) 0).all (fun t => (sarc t).isSome && (t.length == 2 * m)) = true := by
  have h : m = 1 ∨ m = 2 ∨ m = 3 ∨ m = 4 ∨ m = 5 ∨ m = 6 := by omega
  rcases h with rfl | rfl | rfl | rfl | rfl | rfl <;> decide +kernel
theorem all_sys (m : Nat) (h1 : 1 ≤ m) (h6 : m ≤ 6) (k : Nat) (hk : k < (allH (2 * m) 0).length) : sarc ((allH (2 * m) 0).getD k []) = some (sysO ((allH (2 * m) 0).getD k [])) ∧ ((allH (2 * m) 0).getD k []).length = 2 * m := by
  have h := List.all_eq_true.1 (all_sys0 m h1 h6) _ (List.getElem_mem hk)
  rw [List.getD_eq_getElem?_getD, List.getElem?_eq_getElem hk]
  simp only [Option.getD_some]
  simp only [Bool.and_eq_true, beq_iff_eq] at h
  obtain ⟨o, ho⟩ := Option.isSome_iff_exists.1 h.1
  exact ⟨by rw [sysO, ho]; rfl, h.2⟩
theorem rb_sys0 (m : Nat) (h1 : 1 ≤ m) (h6 : m ≤ 6) : (sarc (txt (rbL m m) (2 * m))).isSome = true ∧ (sysO (txt (rbL m m) (2 * m))).take (2 * m) = rbL m m := by
  have h : m = 1 ∨ m = 2 ∨ m = 3 ∨ m = 4 ∨ m = 5 ∨ m = 6 := by omega
  rcases h with rfl | rfl | rfl | rfl | rfl | rfl <;> decide +kernel
/-- The rainbow's arches. -/
def rbO (m : Nat) : List Int := sysO (txt (rbL m m) (2 * m))
theorem rb_sys (m : Nat) (h1 : 1 ≤ m) (h6 : m ≤ 6) : sarc (rbS m).data.toList = some (rbO m) ∧ (rbO m).take (2 * m) = rbL m m := by
  obtain ⟨a, b⟩ := rb_sys0 m h1 h6
  refine ⟨?_, b⟩
  rw [rbS, strT_list, rbO]
  obtain ⟨o, ho⟩ := Option.isSome_iff_exists.1 a
  rw [sysO, ho]; rfl
theorem bsl_get (L : List (List UInt8)) (j : Nat) (h : j < L.length) : (bsl L).getD j eB = bsv (L.getD j []) := by
  rw [List.getD_eq_getElem?_getD, List.getD_eq_getElem?_getD]; simp [bsl, h]
theorem bsv_list (t : List UInt8) : (bsv t).data.toList = t := by simp [bsv]
/-- How many of the first k have the property. -/
def cnt (P : List UInt8 → Bool) (L : List (List UInt8)) : Nat → Nat
  | 0 => 0
  | k + 1 => cnt P L k + (if P (L.getD k []) = true then 1 else 0)
theorem cnt_le (P : List UInt8 → Bool) (L : List (List UInt8)) (k : Nat) : cnt P L k ≤ k := by
  induction k with
  | zero => exact Nat.le_refl _
  | succ k ih => rw [cnt]; split <;> omega
theorem cnt_t {P : List UInt8 → Bool} {L : List (List UInt8)} {k : Nat} (h : P (L.getD k []) = true) : cnt P L (k + 1) = cnt P L k + 1 := by rw [cnt, if_pos h]
theorem cnt_f {P : List UInt8 → Bool} {L : List (List UInt8)} {k : Nat} (h : P (L.getD k []) = false) : cnt P L (k + 1) = cnt P L k := by rw [cnt, if_neg (by rw [h]; decide)]; rfl
theorem infoA : (Try.prog.info? 79).map (fun i => (i.zero, i.size, i.bytes)) = some (some (.slice none 0 0), 1, 24) := by kernel_rfl
theorem makeAA (n : Nat) (hn : n ≤ 1000) : ∀ w : World, (Instr.makeSlice 76 (.int .i64 n) (.int .i64 n)).run Try.prog w = .ok (.slice (some ⟨w.heap.size, 0, none⟩) n n) (w.alloc (.cells (madeCells #[.slice none 0 0] n) 79)) := by
  intro w
  obtain ⟨i0, hi0, hz0, hz1, hz2⟩ := info_parts infoA
  have := run_make w 76 79 i0 (.slice none 0 0) Try.underlying76 hi0 hz0 .i64 .i64 (n : Int) (n : Int) (by omega) (by omega) (by rw [hz2]; omega) (by omega)
  rw [this, hz1]
  simp only [Int.toNat_natCast, Nat.mul_one]
  rfl
theorem madeAA_size (n : Nat) : (madeCells #[Value.slice none 0 0] n).size = n := by simp [madeCells]
/-- The first k of a list of arches. -/
def AL (w : World) (cs : Array Value) (B L : Nat) (LL : List (List UInt8)) (k : Nat) : Prop :=
  ∀ j, j < k → ∃ ga, B ≤ ga ∧ cs[j]? = some (.slice (some ⟨ga, 0, none⟩) L L) ∧ Arc w ga L (sysO (LL.getD j []))
theorem AL.below {w w' : World} {cs : Array Value} {B L : Nat} {LL : List (List UInt8)} {k : Nat} (h : AL w cs B L LL k) (hb : Below w.heap.size w w') : AL w' cs B L LL k := fun j hj => by
  obtain ⟨ga, g1, g2, g3⟩ := h j hj
  exact ⟨ga, g1, g2, Own.below g3 hb (Own.lt g3)⟩
theorem AL.set {w : World} {cs : Array Value} {B L g : Nat} {LL : List (List UInt8)} {k : Nat} (h : AL w cs B L LL k) (hO : Own w g cs 79) (hk : k < cs.size) (ga : Nat) (hB : B ≤ ga) (hA : Arc w ga L (sysO (LL.getD k []))) :
    AL (w.setCell ⟨g, k, none⟩ (.slice (some ⟨ga, 0, none⟩) L L)) (cs.setIfInBounds k (.slice (some ⟨ga, 0, none⟩) L L)) B L LL (k + 1) := fun j hj => by
  by_cases e : j = k
  · subst e
    exact ⟨ga, hB, by simp [hk], Own.other hA (Own.neT hO hA (by decide)) _⟩
  · obtain ⟨gb, g1, g2, g3⟩ := h j (by omega)
    exact ⟨gb, g1, by rw [Array.getElem?_setIfInBounds_ne (by omega)]; exact g2, Own.other g3 (Own.neT hO g3 (by decide)) _⟩
set_option maxRecDepth 100000 in
set_option maxHeartbeats 1000000 in
theorem lia_ok (m : Nat) (h1 : 1 ≤ m) (h6 : m ≤ 6) (n : Nat) (hn : (allH (2 * m) 0).length = n) (w : World) :
    Calls Try.prog 48 #[.int .i64 m] w fun e w' => ∃ g cs, w.heap.size ≤ g ∧ e = .returned (.slice (some ⟨g, 0, none⟩) n n) ∧ Own w' g cs 79 ∧ AL w' cs w.heap.size (2 * m) (allH (2 * m) 0) n ∧ Below w.heap.size w w' := by
  have hlen := allH_len12 m h1 h6
  rw [hn] at hlen
  have hL := Lib.hid (fun w => (lis_ok m h1 h6 w).mono fun e w' (h : (∃ v, e = .returned v ∧ Col w' w.heap.size v (allH (2 * m) 0)) ∧ Below w.heap.size w w') => show ∃ p cap, e = .returned (.slice p n cap) ∧ TMn w' w.heap.size p (bsl (allH (2 * m) 0)) ∧ Below w.heap.size w w' from by
    obtain ⟨⟨v, rfl, hC⟩, hB⟩ := h
    obtain ⟨p, cap, rfl, hT⟩ := hC.tmn
    exact ⟨p, cap, by rw [hn], hT, hB⟩)
  have hS := Lib.hid (fun k hk => all_sys m h1 h6 k hk)
  have hmk := makeAA n (by omega)
  have HN := Lib.hid hn
  have HG := Lib.hid (fun j h => bsl_get (allH (2 * m) 0) j h)
  generalize allH (2 * m) 0 = LL at *
  clear hn
  go_enter Try.func48, Try.ntmps48
  go_wp2_with (first
    | (go_at_call 78; ((with_reducible refine (hL.out _).mono ?_); rintro e w1 ⟨p, cap, rfl, hT, hB1⟩)))
  clear hmk
  have hT1 := hT.rd
  obtain ⟨cs0, hcs0⟩ : ∃ cs, madeCells #[Value.slice none 0 0] n = cs := ⟨_, rfl⟩
  have hsz0 := madeAA_size n
  rw [hcs0] at hsz0 ⊢
  clear hcs0
  have hs1 := hB1.size
  go_loopw [14] (fun i wr => ∃ (k : Nat) (cs : Array Value), k ≤ n ∧ i = .int .i64 k ∧ cs.size = n ∧ Own wr w1.heap.size cs 79 ∧ AL wr cs w.heap.size (2 * m) LL k ∧ Below w1.heap.size w1 wr) (fun i _ => ((n : Int) - intOf i).toNat)
  case atStart => exact ⟨0, cs0, by omega, rfl, hsz0, Own.new _ _ _, fun j hj => by omega, (Below.refl _ _).alloc (Nat.le_refl _) _⟩
  case round =>
    obtain ⟨k, cs, hk, rfl, hcs, hO, hAL, hB⟩ := hrel
    by_cases hlt : k < n
    · have hlt' : k < LL.length := by rw [HN.out]; exact hlt
      cases p with
      | none => exfalso; have := hT1.nil rfl; have h2 := bsl_len LL; rw [this, HN.out] at h2; simp at h2; omega
      | some a =>
        obtain ⟨hs1', hs2⟩ := hS.out k hlt'
        have c1 := (hT1.below hB).cell a rfl k (by rw [bsl_len]; exact hlt')
        rw [HG.out k hlt'] at c1
        obtain ⟨t, ht⟩ : ∃ t, LL.getD k [] = t := ⟨_, rfl⟩
        rw [ht] at hs1' hs2 c1
        have hbs := bsv_size t
        obtain ⟨s, hss⟩ : ∃ s, bsv t = s := ⟨_, rfl⟩
        have hsl := bsv_list t
        rw [hss] at c1 hbs hsl
        have hA := Lib.hid (fun w => (ari_any s w (by unfold maxLen; omega)).mono fun e w' (h : AriPost s w e w') => show ∃ ga, w.heap.size ≤ ga ∧ e = .returned (.tuple #[.slice (some ⟨ga, 0, none⟩) (2 * m : Nat) (2 * m : Nat), .bool true]) ∧ Arc w' ga (2 * m) (sysO t) ∧ Below w.heap.size w w' from by
          rcases h with ⟨o, ga, q1, q2, q3, q4, q5⟩ | ⟨q1, _⟩
          · rw [hsl, hs1'] at q1
            injection q1 with q1
            subst q1
            rw [hbs, hs2] at q3 q4
            exact ⟨ga, q2, q3, q4, q5⟩
          · rw [hsl, hs1'] at q1; cases q1)
        have i1 : (k : Int) < (n : Int) := by omega
        have HO := Lib.hid hO
        have HAL := Lib.hid hAL
        have HT := Lib.hid ht
        have hOl := hO.lt
        clear hO hAL hs1' hs2 hbs hss hsl ht
        go_wp2_with (first
          | (go_at_call 79; ((with_reducible refine (hA.out wr).mono ?_); rintro e w3 ⟨ga, hga, rfl, hAr, hB3⟩; have hO3 := HO.out.below hB3 hOl; have f2 := hO3.free k; have c2 : w3.cell? ⟨w1.heap.size, k, none⟩ = some (cs[k]'(by omega)) := by rw [hO3.cell]; exact Array.getElem?_eq_getElem (by omega))))
        go_roundw
        case rel =>
          have z := hB.size
          exact ⟨k + 1, _, by omega, by go_num, by simp [hcs], hO3.set k _, AL.set (HAL.out.below hB3) hO3 (by omega) ga (by omega) (by rw [HT.out]; exact hAr), (hB.trans (hB3.mono hB.size)).setCell (p := ⟨w1.heap.size, k, none⟩) (Nat.le_refl _) _⟩
        case measure => simp [intOf]; omega
    · have e : k = n := by omega
      subst e
      go_wp2
      go_ret
      exact ⟨_, cs, hs1, rfl, hO, hAL, hB1.trans (hB.mono hs1)⟩
end Go.Proofs.Ytlgdeciikliihaa
