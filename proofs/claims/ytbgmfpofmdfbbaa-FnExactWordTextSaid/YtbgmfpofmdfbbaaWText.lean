/- Contracts of WordText, the program's and the model's, and the law. -/
import Derived.Test.YtbgmfpofmdfbbaaLawVal
import Derived.Test.YtbgmfpofmdfbbaaText
namespace Go.Proofs.Ytbgmfpofmdfbbaa
open Go.RowKit
set_option linter.unusedVariables false
theorem str_append (a b : List Int) : strOfNums a ++ strOfNums b = strOfNums (a ++ b) := by
  unfold strOfNums
  rw [ByteArray.mk_append_mk]
  simp
def digs (xs : List Int) : List Int := xs.map (fun x => 48 + x)
theorem digs_len (xs : List Int) : (digs xs).length = xs.length := by simp [digs]
theorem digs_take (xs : List Int) (k : Nat) (h : k < xs.length) : digs (xs.take (k + 1)) = digs (xs.take k) ++ [48 + xs.getD k 0] := by
  unfold digs
  rw [List.take_succ_eq_append_getElem h, List.map_append, List.getD_eq_getElem?_getD, List.getElem?_eq_getElem h]; rfl
set_option maxRecDepth 100000 in
theorem decS_digit (x : Int) (w : World) (h0 : 0 ≤ x) (h9 : x ≤ 9) :
    Calls Try.prog 65 #[.int .i64 x] w fun e w' => e = .returned (.string (strOfNums [48 + x])) ∧ Below w.heap.size w w' := by
  have hcv := run_convert_bytes_arg (w.alloc (.cells #[.int .u8 (48 + x)] 5)) 75 5 Try.underlying75 Try.underlying5 w.heap.size 0 1 1 [48 + x] rfl
    (fun i hi => by
      have : i = 0 := by omega
      subst this
      exact (Own.new w #[.int .u8 (48 + x)] 5).cell 0) 9 Try.underlying9
  go_enter Try.func65, Try.ntmps65
  go_wp2
  go_ret
  exact ⟨rfl, (Below.refl _ _).alloc (Nat.le_refl _) _⟩
theorem makeB (n : Nat) (hn : n ≤ 1048576) : ∀ w : World, (Instr.makeSlice 75 (.int .i64 n) (.int .i64 n)).run Try.prog w = .ok (.slice (some ⟨w.heap.size, 0, none⟩) n n) (w.alloc (.cells (mcells (List.replicate n 0)) 5)) := by
  intro w
  have info8' : (Try.prog.info? 5).map (fun i => (i.zero, i.size, i.bytes)) = some (some (.int .u8 0), 1, 1) := by kernel_rfl
  obtain ⟨i0, hi0, hz0, hz1, hz2⟩ := info_parts info8'
  have := run_make w 75 5 i0 (.int .u8 0) Try.underlying75 hi0 hz0 .i64 .i64 (n : Int) (n : Int) (by omega) (by omega) (by rw [hz2]; omega) (by omega)
  rw [this, hz1]
  simp only [Int.toNat_natCast, Nat.mul_one]
  have e : madeCells #[Value.int .u8 0] n = mcells (List.replicate n 0) := by
    apply Array.toList_inj.1
    unfold madeCells mcells
    simp only [Array.toList_map, Array.toList_range, List.map_replicate]
    apply List.ext_getElem?
    intro i
    rw [List.getElem?_map, List.getElem?_replicate]
    by_cases h : i < n
    · rw [List.getElem?_range h, if_pos h]
      simp [Nat.mod_one]
    · rw [if_neg h, List.getElem?_eq_none (by simpa using h)]; rfl
  rw [← e]
  rfl
/-- The first k digits, and zeros behind them. -/
def dgI (xs : List Int) (k : Nat) : List Int := digs (xs.take k) ++ List.replicate (xs.length - k) 0
theorem dgI_len (xs : List Int) (k : Nat) (h : k ≤ xs.length) : (dgI xs k).length = xs.length := by simp [dgI, digs]; omega
theorem dgI_set (xs : List Int) (k : Nat) (h : k < xs.length) : (dgI xs k).set k (48 + xs.getD k 0) = dgI xs (k + 1) := by
  unfold dgI
  rw [digs_take xs k h, List.set_append_right _ _ (by simp [digs]; omega), show xs.length - k = (xs.length - (k + 1)) + 1 by omega, List.replicate_succ]
  have : k - (digs (xs.take k)).length = 0 := by simp [digs]; omega
  rw [this, List.set_cons_zero, List.append_assoc]; rfl
theorem dgI_end (xs : List Int) : dgI xs xs.length = digs xs := by simp [dgI]
set_option maxRecDepth 100000 in
set_option maxHeartbeats 1000000 in
theorem wtextI_ok (n : Int) (p : Option Addr) (cap : Nat) (xs : List Int) (w : World) (hR : Rd w p xs) (h : wordB n xs = true) :
    Calls Try.prog 33 #[.int .i64 n, .slice p xs.length cap] w fun e w' => e = .returned (.tuple #[.string (strOfNums (digs xs)), .int .i64 0]) ∧ Below w.heap.size w w' := by
  have hB := wordB_t h
  have hc := Lib.hid (fun w hR => isWordI_any n p cap xs w (by omega) hR)
  rw [h] at hc
  obtain ⟨⟨n2, n8, h60⟩, hok⟩ := hB
  obtain ⟨m, hm⟩ : ∃ m, xs.length = m := ⟨_, rfl⟩
  have hR' := Lib.hid hR
  have hN := Lib.hid hm
  have hOK := Lib.hid hok
  have hmk := makeB m (by omega)
  have hz := Lib.hid (show List.replicate m 0 = dgI xs 0 by simp [dgI, digs, hm])
  rw [hm] at hc h60 ⊢
  clear hR hm hok h
  go_enter Try.func33, Try.ntmps33
  go_wp2_with (first
    | (go_at_call 59; ((with_reducible refine (hc.out _ hR'.out).mono ?_); rintro e w1 ⟨rfl, rfl⟩)))
  clear hmk
  go_loopw [18] (fun i wr => ∃ k : Nat, k ≤ m ∧ i = .int .i64 k ∧ Own wr w1.heap.size (mcells (dgI xs k)) 5 ∧ Below w1.heap.size w1 wr) (fun i _ => ((m : Int) - intOf i).toNat)
  case atStart => exact ⟨0, by omega, rfl, by rw [← hz.out]; exact Own.new _ _ _, (Below.refl _ _).alloc (Nat.le_refl _) _⟩
  case round =>
    obtain ⟨k, hk, rfl, hO, hB⟩ := hrel
    have hll := Lib.hid (dgI_len xs k (by rw [hN.out]; exact hk))
    by_cases hlt : k < m
    · have hks : k < xs.length := by have := hN.out; omega
      obtain ⟨a, rfl⟩ := rd_some hR'.out hks
      have c1 := (hR'.out.below hB).cell a rfl k hks
      have hst := dgI_set xs k hks
      obtain ⟨x, hxx⟩ : ∃ x, xs.getD k 0 = x := ⟨_, rfl⟩
      have hxb := hOK.out x (by rw [← hxx, List.getD_eq_getElem?_getD, List.getElem?_eq_getElem hks]; exact List.getElem_mem hks)
      rw [hxx] at c1 hst
      obtain ⟨x0, x2⟩ := hxb
      have c2 := hO.cell k
      rw [mcells_get _ _ (by rw [hll.out]; exact hks)] at c2
      have f2 := hO.free k
      have hO2 := hO.set k (.int .u8 (48 + x))
      rw [mcells_set, hst] at hO2
      have hB2 := hB.setCell (p := ⟨w1.heap.size, k, none⟩) (by simp) (.int .u8 (48 + x))
      have K1 := Lib.hid hO2
      have i1 : (k : Int) < (m : Int) := by omega
      clear hO2 hst hxx
      go_wp2
      go_roundw
      case rel => exact ⟨k + 1, by omega, by go_num, K1.out, hB2⟩
      case measure => simp [intOf]; omega
    · have hk2 : k = m := by omega
      subst hk2
      have e : dgI xs k = digs xs := by rw [← hN.out]; exact dgI_end xs
      rw [e] at hO
      have hcv := run_convert_bytes_arg wr 75 5 Try.underlying75 Try.underlying5 w1.heap.size 0 k k (digs xs) (by rw [digs_len]; exact hN.out)
        (fun i hi => by rw [Nat.zero_add, hO.cell, mcells_get _ _ (by rw [digs_len, hN.out]; exact hi)]) 9 Try.underlying9
      clear e
      go_wp2
      go_ret2
      exact ⟨rfl, hB⟩
set_option maxRecDepth 100000 in
theorem wtextI_bad (n : Int) (p : Option Addr) (cap : Nat) (xs : List Int) (w : World) (hx : xs.length ≤ 1048576) (hR : Rd w p xs) (h : wordB n xs = false) :
    Calls Try.prog 33 #[.int .i64 n, .slice p xs.length cap] w fun e w' => e = .returned (.tuple #[.string (strOfNums []), .int .i64 2]) ∧ Below w.heap.size w w' := by
  have hR' := Lib.hid hR
  have hc := Lib.hid (fun w hR => isWordI_any n p cap xs w hx hR)
  rw [h] at hc
  clear hR h
  go_enter Try.func33, Try.ntmps33
  go_wp2_with (first
    | (go_at_call 59; ((with_reducible refine (hc.out _ hR'.out).mono ?_); rintro e w1 ⟨rfl, rfl⟩)))
  go_ret2
  exact ⟨rfl, Below.refl _ _⟩
set_option maxRecDepth 100000 in
theorem wtextS_bad (n : Int) (p : Option Addr) (cap : Nat) (xs : List Int) (w : World) (hx : xs.length ≤ 1048576) (hR : Rd w p xs) (h : wordB n xs = false) :
    Calls Try.prog 32 #[.int .i64 n, .slice p xs.length cap] w fun e w' => e = .returned (.tuple #[.string (strOfNums []), .int .i64 2]) ∧ Below w.heap.size w w' := by
  have hR' := Lib.hid hR
  have hc := Lib.hid (fun w hR => isWordS_any n p cap xs w hx hR)
  rw [h] at hc
  clear hR h
  go_enter Try.func32, Try.ntmps32
  go_wp2_with (first
    | (go_at_call 57; ((with_reducible refine (hc.out _ hR'.out).mono ?_); rintro e w1 ⟨rfl, rfl⟩)))
  go_ret2
  exact ⟨rfl, Below.refl _ _⟩
set_option maxRecDepth 100000 in
set_option maxHeartbeats 1000000 in
theorem wtextS_ok (n : Int) (p : Option Addr) (cap : Nat) (xs : List Int) (w : World) (hR : Rd w p xs) (h : wordB n xs = true) :
    Calls Try.prog 32 #[.int .i64 n, .slice p xs.length cap] w fun e w' => e = .returned (.tuple #[.string (strOfNums (digs xs)), .int .i64 0]) ∧ Below w.heap.size w w' := by
  have hB := wordB_t h
  have hc := Lib.hid (fun w hR => isWordS_any n p cap xs w (by omega) hR)
  rw [h] at hc
  obtain ⟨⟨n2, n8, h60⟩, hok⟩ := hB
  obtain ⟨m, hm⟩ : ∃ m, xs.length = m := ⟨_, rfl⟩
  have hR' := Lib.hid hR
  have hN := Lib.hid hm
  have hOK := Lib.hid hok
  rw [hm] at hc h60 ⊢
  clear hR hm hok h
  go_enter Try.func32, Try.ntmps32
  go_wp2_with (first
    | (go_at_call 57; ((with_reducible refine (hc.out _ hR'.out).mono ?_); rintro e w1 ⟨rfl, rfl⟩)))
  go_loopw [6, 7] (fun t i wr => ∃ k : Nat, k ≤ m ∧ i = .int .i64 k ∧ t = .string (strOfNums (digs (xs.take k))) ∧ Below w1.heap.size w1 wr) (fun _ i _ => ((m : Int) - intOf i).toNat)
  case atStart => exact ⟨0, by omega, rfl, rfl, Below.refl _ _⟩
  case round =>
    obtain ⟨k, hk, rfl, rfl, hB⟩ := hrel
    by_cases hlt : k < m
    · have hks : k < xs.length := by have := hN.out; omega
      obtain ⟨a, rfl⟩ := rd_some hR'.out hks
      have c1 := (hR'.out.below hB).cell a rfl k hks
      have hst := digs_take xs k hks
      obtain ⟨x, hxx⟩ : ∃ x, xs.getD k 0 = x := ⟨_, rfl⟩
      have hxb := hOK.out x (by rw [← hxx, List.getD_eq_getElem?_getD, List.getElem?_eq_getElem hks]; exact List.getElem_mem hks)
      rw [hxx] at c1 hst
      obtain ⟨x0, x2⟩ := hxb
      have i1 : (k : Int) < (m : Int) := by omega
      have s1 : (strOfNums (digs (xs.take k))).size = k := by rw [strOfNums_size, digs_len, List.length_take]; omega
      have s2 : (strOfNums [48 + x]).size = 1 := strOfNums_size _
      have hs3 := Lib.hid (show strOfNums (digs (xs.take k)) ++ strOfNums [48 + x] = strOfNums (digs (xs.take (k + 1))) by rw [str_append, hst])
      generalize strOfNums (digs (xs.take k)) = t1 at s1 hs3 ⊢
      have hd := Lib.hid (fun w => decS_digit x w x0 (by omega))
      generalize strOfNums [48 + x] = t2 at s2 hs3 hd
      have hsz := hB.size
      clear hst hxx
      go_wp2_with (first
        | (go_at_call 65; ((with_reducible refine (hd.out _).mono ?_); rintro e w2 ⟨rfl, hB2⟩)))
      go_roundw
      case rel => exact ⟨k + 1, by omega, by go_num, by rw [← hs3.out], hB.trans (hB2.mono hsz)⟩
      case measure => simp [intOf]; omega
    · have hk2 : k = m := by omega
      subst hk2
      have e : xs.take k = xs := List.take_of_length_le (by rw [hN.out]; exact Nat.le_refl _)
      rw [e]
      clear e
      go_wp2
      go_ret2
      exact ⟨rfl, hB⟩
set_option maxRecDepth 100000 in
set_option maxHeartbeats 1000000 in
theorem WordText_walk (n : Int) (p : Option Addr) (cap : Nat) (xs : List Int) (w : World) (hx : xs.length ≤ 1048576) (hR : Rd w p xs) (t : ByteArray) (c : Int)
    (hS : ∀ w p cap, Rd w p xs → Calls Try.prog 32 #[.int .i64 n, .slice p xs.length cap] w fun e w' => e = .returned (.tuple #[.string t, .int .i64 c]) ∧ Below w.heap.size w w')
    (hI : ∀ w p cap, Rd w p xs → Calls Try.prog 33 #[.int .i64 n, .slice p xs.length cap] w fun e w' => e = .returned (.tuple #[.string t, .int .i64 c]) ∧ Below w.heap.size w w') :
    Calls Try.prog 9 #[.int .i64 n, .slice p xs.length cap] w fun e w' => e = .returned (.bool true) ∧ Below w.heap.size w w' := by
  have hS' := Lib.hid hS
  have hI' := Lib.hid hI
  have hR' := Lib.hid hR
  have hc := Lib.hid (fun w hR => toI_any p cap xs hx w hR)
  have he := Lib.hid (fun p q cap cap' w hR hQ => eqI_same p q cap cap' xs (by omega) w hR hQ)
  have hx' : ¬ (1048576 : Int) < (xs.length : Int) := by omega
  clear hS hI hR
  go_enter Try.func9, Try.ntmps9
  go_wp2_with (first
    | (go_at_call 27; ((with_reducible refine (hc.out w5 (hR'.out.below b5)).mono ?_); rintro e w7 ⟨rfl, hO7, hB7⟩))
    | (go_at_call 27; ((with_reducible refine (hc.out w2 (hR'.out.below b2)).mono ?_); rintro e w4 ⟨rfl, hO4, hB4⟩; have b4 := b2.trans (hB4.mono b2.size)))
    | (go_at_call 27; ((with_reducible refine (hc.out w hR'.out).mono ?_); rintro e w1 ⟨rfl, hO1, hB1⟩))
    | ((go_at_call 32; ((with_reducible refine (hS'.out _ _ _ (Rd.own hO1)).mono ?_); rintro e w2 ⟨rfl, hB2⟩)); have b2 := hB1.trans (hB2.mono hB1.size))
    | ((go_at_call 33; ((with_reducible refine (hI'.out _ _ _ (Rd.own hO4)).mono ?_); rintro e w5 ⟨rfl, hB5⟩)); have b5 := b4.trans (hB5.mono b4.size); have hO45 := hO4.below hB5 hO4.lt)
    | (go_at_call 29; ((with_reducible refine (he.out _ _ _ _ w7 (Rd.own (hO45.below hB7 hO45.lt)) (Rd.own hO7)).mono ?_); rintro e w8 ⟨rfl, hB8⟩)))
  go_ret
  have b7 := b5.trans (hB7.mono b5.size)
  exact ⟨rfl, b7.trans (hB8.mono b7.size)⟩
theorem wtext_big (n : Int) (p : Option Addr) (cap : Nat) (len : Nat) (w : World) (hm : len ≤ maxLen) (h : 1048576 < len) : Calls Try.prog 9 #[.int .i64 n, .slice p len cap] w fun e w' => e = .returned (.bool true) ∧ Below w.heap.size w w' := by
  unfold maxLen at hm
  have h' : (1048576 : Int) < (len : Int) := by omega
  go_enter Try.func9, Try.ntmps9
  go_wp2
  go_ret
  exact ⟨rfl, Below.refl _ _⟩
theorem wtext_law (n : Int) (p : Option Addr) (cap : Nat) (xs : List Int) (w : World) (hm : xs.length ≤ maxLen) (hR : Rd w p xs) :
    Calls Try.prog 9 #[.int .i64 n, .slice p xs.length cap] w fun e w' => e = .returned (.bool true) ∧ Below w.heap.size w w' := by
  by_cases h : xs.length ≤ 1048576
  · cases hb : wordB n xs with
    | false => exact WordText_walk n p cap xs w h hR _ 2 (fun w p cap hR => wtextS_bad n p cap xs w h hR hb) (fun w p cap hR => wtextI_bad n p cap xs w h hR hb)
    | true => exact WordText_walk n p cap xs w h hR _ 0 (fun w p cap hR => wtextS_ok n p cap xs w hR hb) (fun w p cap hR => wtextI_ok n p cap xs w hR hb)
  · exact wtext_big n p cap xs.length w hm (by omega)
end Go.Proofs.Ytbgmfpofmdfbbaa
