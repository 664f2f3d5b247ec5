/- StabilizeWord and ConjugateWord: program, model and laws. -/
import Derived.Test.YtfhplhnaijhjlaaBrd
import Derived.Test.YtfhplhnaijhjlaaCat
import Derived.Test.YtfhplhnaijhjlaaLst
namespace Go.Proofs.Ytfhplhnaijhjlaa
open Go.RowKit
set_option linter.unusedVariables false
def signB (s : Int) : Bool := decide (s = 1 ∨ s = -1)
def stabR (n : Int) (xs : List Int) (s : Int) : List Int × Int :=
  if brdB n xs && decide (n ≤ 5) && signB s then (if xs.length + 1 ≤ 24 then (xs ++ [s * n], 0) else ([], 3)) else ([], 2)
theorem bools {a b : Bool} (h : a = b) : a = b := h
set_option maxRecDepth 100000 in
theorem stabI_b1 (n : Int) (s : Int) (p : Option Addr) (cap : Nat) (xs : List Int) (w : World) (hx : xs.length ≤ 1048576) (hR : Rd w p xs) (h : brdB n xs = false) :
    Calls Try.prog 27 #[.int .i64 n, .slice p xs.length cap, .int .i64 s] w (ResI [] 2 w) := by
  have hR' := Lib.hid hR
  have hc := Lib.hid (fun w hR => isBraidI_any n p cap xs w hx hR)
  rw [h] at hc
  clear h
  clear hR
  go_enter Try.func27, Try.ntmps27
  go_wp2_with (first
    | (go_at_call 34; ((with_reducible refine (hc.out _ hR'.out).mono ?_); rintro e w1 ⟨rfl, rfl⟩)))
  go_ret2
  exact ⟨none, 0, rfl, Mn.nil _ _, Below.refl _ _⟩
set_option maxRecDepth 100000 in
theorem stabI_b2 (n : Int) (s : Int) (p : Option Addr) (cap : Nat) (xs : List Int) (w : World) (hx : xs.length ≤ 1048576) (hR : Rd w p xs) (h : brdB n xs = true ∧ 5 < n) :
    Calls Try.prog 27 #[.int .i64 n, .slice p xs.length cap, .int .i64 s] w (ResI [] 2 w) := by
  have hR' := Lib.hid hR
  have hc := Lib.hid (fun w hR => isBraidI_any n p cap xs w hx hR)
  have hn6 : n = 6 := by have := (brdB_t h.1).1; omega
  rw [h.1] at hc
  clear h
  subst hn6
  clear hR
  go_enter Try.func27, Try.ntmps27
  go_wp2_with (first
    | (go_at_call 34; ((with_reducible refine (hc.out _ hR'.out).mono ?_); rintro e w1 ⟨rfl, rfl⟩)))
  go_ret2
  exact ⟨none, 0, rfl, Mn.nil _ _, Below.refl _ _⟩
set_option maxRecDepth 100000 in
theorem stabI_b3 (n : Int) (s : Int) (p : Option Addr) (cap : Nat) (xs : List Int) (w : World) (hx : xs.length ≤ 1048576) (hR : Rd w p xs) (h : brdB n xs = true ∧ n ≤ 5 ∧ signB s = false) :
    Calls Try.prog 27 #[.int .i64 n, .slice p xs.length cap, .int .i64 s] w (ResI [] 2 w) := by
  have hR' := Lib.hid hR
  have hc := Lib.hid (fun w hR => isBraidI_any n p cap xs w hx hR)
  have hn6 : (n == 6) = false := by have := (brdB_t h.1).1; simp; omega
  have hn5 : ¬ 5 < n := by omega
  have hs : ¬ s = 1 ∧ ¬ s = -1 := by have := h.2.2; simpa [signB] using this
  have e1 : (s != 1) = true := by simpa using hs.1
  have e2 : (s != -1) = true := by simpa using hs.2
  obtain ⟨hs1, hs2⟩ := hs
  rw [h.1] at hc
  clear h
  clear hR
  go_enter Try.func27, Try.ntmps27
  go_wp2_with (first
    | (go_at_call 34; ((with_reducible refine (hc.out _ hR'.out).mono ?_); rintro e w1 ⟨rfl, rfl⟩)))
  go_ret2
  exact ⟨none, 0, rfl, Mn.nil _ _, Below.refl _ _⟩
set_option maxRecDepth 100000 in
theorem stabI_long (n : Int) (s : Int) (p : Option Addr) (cap : Nat) (xs : List Int) (w : World) (hx : xs.length ≤ 1048576) (hR : Rd w p xs) (h : brdB n xs = true ∧ n ≤ 5 ∧ (s = 1 ∨ s = -1) ∧ 24 ≤ xs.length) :
    Calls Try.prog 27 #[.int .i64 n, .slice p xs.length cap, .int .i64 s] w (ResI [] 3 w) := by
  have hR' := Lib.hid hR
  have hc := Lib.hid (fun w hR => isBraidI_any n p cap xs w hx hR)
  have hn6 : (n == 6) = false := by have := (brdB_t h.1).1; simp; omega
  have hn5 : ¬ 5 < n := by omega
  have hlen : xs.length ≤ 24 := (brdB_t h.1).1.2.2
  have n2 : 2 ≤ n := (brdB_t h.1).1.1
  have hs := h.2.2.1
  have hl24 : 24 ≤ xs.length := h.2.2.2
  rw [h.1] at hc
  clear h
  obtain ⟨m, hm⟩ : ∃ m, xs.length = m := ⟨_, rfl⟩
  rw [hm] at hc hlen hl24 ⊢
  clear hm hx
  clear hR
  rcases hs with rfl | rfl
  all_goals
    go_enter Try.func27, Try.ntmps27
    go_wp2_with (first
      | (go_at_call 34; ((with_reducible refine (hc.out _ hR'.out).mono ?_); rintro e w1 ⟨rfl, rfl⟩)))
    go_ret2
    exact ⟨none, 0, rfl, Mn.nil _ _, Below.refl _ _⟩
set_option maxRecDepth 100000 in
theorem stabS_b1 (n : Int) (s : Int) (p : Option Addr) (cap : Nat) (xs : List Int) (w : World) (hx : xs.length ≤ 1048576) (hR : Rd w p xs) (h : brdB n xs = false) :
    Calls Try.prog 26 #[.int .i64 n, .slice p xs.length cap, .int .i64 s] w (ResI [] 2 w) := by
  have hR' := Lib.hid hR
  have hc := Lib.hid (fun w hR => isBraidS_any n p cap xs w hx hR)
  rw [h] at hc
  clear h
  clear hR
  go_enter Try.func26, Try.ntmps26
  go_wp2_with (first
    | (go_at_call 32; ((with_reducible refine (hc.out _ hR'.out).mono ?_); rintro e w1 ⟨rfl, rfl⟩)))
  go_ret2
  exact ⟨none, 0, rfl, Mn.nil _ _, Below.refl _ _⟩
set_option maxRecDepth 100000 in
theorem stabS_b2 (n : Int) (s : Int) (p : Option Addr) (cap : Nat) (xs : List Int) (w : World) (hx : xs.length ≤ 1048576) (hR : Rd w p xs) (h : brdB n xs = true ∧ 5 < n) :
    Calls Try.prog 26 #[.int .i64 n, .slice p xs.length cap, .int .i64 s] w (ResI [] 2 w) := by
  have hR' := Lib.hid hR
  have hc := Lib.hid (fun w hR => isBraidS_any n p cap xs w hx hR)
  have hn6 : n = 6 := by have := (brdB_t h.1).1; omega
  rw [h.1] at hc
  clear h
  subst hn6
  clear hR
  go_enter Try.func26, Try.ntmps26
  go_wp2_with (first
    | (go_at_call 32; ((with_reducible refine (hc.out _ hR'.out).mono ?_); rintro e w1 ⟨rfl, rfl⟩)))
  go_ret2
  exact ⟨none, 0, rfl, Mn.nil _ _, Below.refl _ _⟩
set_option maxRecDepth 100000 in
theorem stabS_b3 (n : Int) (s : Int) (p : Option Addr) (cap : Nat) (xs : List Int) (w : World) (hx : xs.length ≤ 1048576) (hR : Rd w p xs) (h : brdB n xs = true ∧ n ≤ 5 ∧ signB s = false) :
    Calls Try.prog 26 #[.int .i64 n, .slice p xs.length cap, .int .i64 s] w (ResI [] 2 w) := by
  have hR' := Lib.hid hR
  have hc := Lib.hid (fun w hR => isBraidS_any n p cap xs w hx hR)
  have hn6 : (n == 6) = false := by have := (brdB_t h.1).1; simp; omega
  have hn5 : ¬ 5 < n := by omega
  have hs : ¬ s = 1 ∧ ¬ s = -1 := by have := h.2.2; simpa [signB] using this
  have e1 : (s != 1) = true := by simpa using hs.1
  have e2 : (s != -1) = true := by simpa using hs.2
  obtain ⟨hs1, hs2⟩ := hs
  rw [h.1] at hc
  clear h
  clear hR
  go_enter Try.func26, Try.ntmps26
  go_wp2_with (first
    | (go_at_call 32; ((with_reducible refine (hc.out _ hR'.out).mono ?_); rintro e w1 ⟨rfl, rfl⟩)))
  go_ret2
  exact ⟨none, 0, rfl, Mn.nil _ _, Below.refl _ _⟩
set_option maxRecDepth 100000 in
theorem stabS_long (n : Int) (s : Int) (p : Option Addr) (cap : Nat) (xs : List Int) (w : World) (hx : xs.length ≤ 1048576) (hR : Rd w p xs) (h : brdB n xs = true ∧ n ≤ 5 ∧ (s = 1 ∨ s = -1) ∧ 24 ≤ xs.length) :
    Calls Try.prog 26 #[.int .i64 n, .slice p xs.length cap, .int .i64 s] w (ResI [] 3 w) := by
  have hR' := Lib.hid hR
  have hc := Lib.hid (fun w hR => isBraidS_any n p cap xs w hx hR)
  have hn6 : (n == 6) = false := by have := (brdB_t h.1).1; simp; omega
  have hn5 : ¬ 5 < n := by omega
  have hlen : xs.length ≤ 24 := (brdB_t h.1).1.2.2
  have n2 : 2 ≤ n := (brdB_t h.1).1.1
  have hs := h.2.2.1
  have hl24 : 24 ≤ xs.length := h.2.2.2
  rw [h.1] at hc
  clear h
  obtain ⟨m, hm⟩ : ∃ m, xs.length = m := ⟨_, rfl⟩
  rw [hm] at hc hlen hl24 ⊢
  clear hm hx
  clear hR
  rcases hs with rfl | rfl
  all_goals
    go_enter Try.func26, Try.ntmps26
    go_wp2_with (first
      | (go_at_call 32; ((with_reducible refine (hc.out _ hR'.out).mono ?_); rintro e w1 ⟨rfl, rfl⟩)))
    go_ret2
    exact ⟨none, 0, rfl, Mn.nil _ _, Below.refl _ _⟩
set_option maxRecDepth 100000 in
theorem cat2 (a : Addr) (cap : Nat) (xs : List Int) (y : Int) (w : World) (hR : Rd w (some a) xs) (hl : xs.length ≤ 1000) :
    Calls Try.prog 39 #[.slice (some ⟨w.heap.size + 1, 0, none⟩) 2 2] ((w.alloc (.cells #[.int .i64 y] 2)).alloc (.cells #[.slice (some a) xs.length cap, .slice (some ⟨w.heap.size, 0, none⟩) 1 1] 25)) fun e w' =>
      (∃ p c, e = .returned (.slice p (xs.length + 1) c) ∧ Mn w' w.heap.size p (xs ++ [y])) ∧ Below w.heap.size w w' := by
  have b1 := (Below.refl w.heap.size w).alloc (Nat.le_refl _) (.cells #[.int .i64 y] 2)
  have b2 := b1.alloc b1.size (.cells #[.slice (some a) xs.length cap, .slice (some ⟨w.heap.size, 0, none⟩) 1 1] 25)
  have h := catI_any (w.heap.size + 1) 2 [(a, cap, xs), (⟨w.heap.size, 0, none⟩, 1, [y])] _ (Own.at (w.alloc (.cells #[.int .i64 y] 2)) (prtc [(a, cap, xs), (⟨w.heap.size, 0, none⟩, 1, [y])]) 25 (by simp)) (by
    intro q hq
    rcases List.mem_cons.1 hq with rfl | hq
    · exact hR.below b2
    · rcases List.mem_cons.1 hq with rfl | hq
      · exact Rd.own (xs := [y]) ((Own.new w #[.int .i64 y] 2).alloc _)
      · cases hq) (by simp [catL]; omega) (by simp)
  refine h.mono ?_
  rintro e w' ⟨⟨p, c, rfl, hM⟩, hB⟩
  refine ⟨⟨p, c, by simp [catL], ?_⟩, b2.trans (hB.mono b2.size)⟩
  have := hM.weak b2.size
  simpa [catL] using this
set_option maxRecDepth 100000 in
theorem cat3 (a : Addr) (cap : Nat) (xs : List Int) (x y : Int) (w : World) (hR : Rd w (some a) xs) (hl : xs.length ≤ 1000) :
    Calls Try.prog 39 #[.slice (some ⟨w.heap.size + 1 + 1, 0, none⟩) 3 3] (((w.alloc (.cells #[.int .i64 x] 2)).alloc (.cells #[.int .i64 y] 2)).alloc (.cells #[.slice (some ⟨w.heap.size, 0, none⟩) 1 1, .slice (some a) xs.length cap, .slice (some ⟨w.heap.size + 1, 0, none⟩) 1 1] 25)) fun e w' =>
      (∃ p c, e = .returned (.slice p (xs.length + 1 + 1) c) ∧ Mn w' w.heap.size p (x :: xs ++ [y])) ∧ Below w.heap.size w w' := by
  have b1 := (Below.refl w.heap.size w).alloc (Nat.le_refl _) (.cells #[.int .i64 x] 2)
  have b2 := b1.alloc b1.size (.cells #[.int .i64 y] 2)
  have b3 := b2.alloc b2.size (.cells #[.slice (some ⟨w.heap.size, 0, none⟩) 1 1, .slice (some a) xs.length cap, .slice (some ⟨w.heap.size + 1, 0, none⟩) 1 1] 25)
  have h := catI_any (w.heap.size + 1 + 1) 3 [(⟨w.heap.size, 0, none⟩, 1, [x]), (a, cap, xs), (⟨w.heap.size + 1, 0, none⟩, 1, [y])] _ (Own.at ((w.alloc (.cells #[.int .i64 x] 2)).alloc (.cells #[.int .i64 y] 2)) (prtc [(⟨w.heap.size, 0, none⟩, 1, [x]), (a, cap, xs), (⟨w.heap.size + 1, 0, none⟩, 1, [y])]) 25 (by simp)) (by
    intro q hq
    rcases List.mem_cons.1 hq with rfl | hq
    · exact Rd.own (xs := [x]) (((Own.new w #[.int .i64 x] 2).alloc _).alloc _)
    · rcases List.mem_cons.1 hq with rfl | hq
      · exact hR.below b3
      · rcases List.mem_cons.1 hq with rfl | hq
        · exact Rd.own (xs := [y]) ((Own.at (w.alloc (.cells #[.int .i64 x] 2)) #[.int .i64 y] 2 (by simp)).alloc _)
        · cases hq) (by simp [catL]; omega) (by simp)
  refine h.mono ?_
  rintro e w' ⟨⟨p, c, rfl, hM⟩, hB⟩
  refine ⟨⟨p, c, by simp [catL], ?_⟩, b3.trans (hB.mono b3.size)⟩
  have := hM.weak b3.size
  simpa [catL] using this
set_option maxRecDepth 100000 in
set_option maxHeartbeats 1000000 in
theorem stabI_ok (n : Int) (a : Addr) (cap : Nat) (xs : List Int) (s y : Int) (w : World) (hR : Rd w (some a) xs) (h : brdB n xs = true ∧ n ≤ 5 ∧ (s = 1 ∧ y = n ∨ s = -1 ∧ y = -n) ∧ xs.length + 1 ≤ 24) :
    Calls Try.prog 27 #[.int .i64 n, .slice (some a) xs.length cap, .int .i64 s] w (ResI (xs ++ [y]) 0 w) := by
  obtain ⟨hb, h5, hs, hl⟩ := h
  have hn6 : (n == 6) = false := by simp; omega
  have n2 : 2 ≤ n := (brdB_t hb).1.1
  have hc := Lib.hid (fun w hR => isBraidI_any n (some a) cap xs w (by omega) hR)
  rw [hb] at hc
  have hR' := Lib.hid hR
  have hcat := Lib.hid (fun w hR => cat2 a cap xs y w hR (by omega))
  have hln := Lib.hid (show (xs ++ [y]).length = xs.length + 1 by simp)
  obtain ⟨m, hxm⟩ : ∃ m, xs.length = m := ⟨_, rfl⟩
  rw [hxm] at hl hc hcat hln ⊢
  clear hR hb hxm
  rcases hs with ⟨rfl, rfl⟩ | ⟨rfl, rfl⟩
  all_goals
    go_enter Try.func27, Try.ntmps27
    go_wp2_with (first
      | (go_at_call 34; ((with_reducible refine (hc.out _ hR'.out).mono ?_); rintro e w1 ⟨rfl, rfl⟩))
      | (go_at_call 39; ((with_reducible refine (hcat.out _ hR'.out).mono ?_); rintro e w2 ⟨⟨q, c2, rfl, hM⟩, hB⟩)))
    go_ret2
    exact ⟨q, c2, by rw [hln.out]; rfl, hM, hB⟩
set_option maxRecDepth 100000 in
set_option maxHeartbeats 1000000 in
theorem stabS_ok (n : Int) (a : Addr) (cap : Nat) (xs : List Int) (s y : Int) (w : World) (hR : Rd w (some a) xs) (h : brdB n xs = true ∧ n ≤ 5 ∧ (s = 1 ∧ y = n ∨ s = -1 ∧ y = -n) ∧ xs.length + 1 ≤ 24) :
    Calls Try.prog 26 #[.int .i64 n, .slice (some a) xs.length cap, .int .i64 s] w (ResI (xs ++ [y]) 0 w) := by
  obtain ⟨hb, h5, hs, hl⟩ := h
  have n2 : 2 ≤ n := (brdB_t hb).1.1
  have hc := Lib.hid (fun w hR => isBraidS_any n (some a) cap xs w (by omega) hR)
  rw [hb] at hc
  have hR' := Lib.hid hR
  have hown := Lib.hid (fun w hR => ownS_any a cap xs (by omega) w hR)
  have hln := Lib.hid (show (xs ++ [y]).length = xs.length + 1 by simp)
  obtain ⟨m, hxm⟩ : ∃ m, xs.length = m := ⟨_, rfl⟩
  have hxm' := Lib.hid hxm
  rw [hxm] at hl hc hown ⊢
  clear hR hb hxm
  rcases hs with ⟨rfl, rfl⟩ | ⟨rfl, rfl⟩
  all_goals
    go_enter Try.func26, Try.ntmps26
    go_wp2_with (first
      | (refine wpList_append_ints rfl (.tmp 31) (.tmp 35) rfl w1.heap.size g c2 xs _ rfl (hI.alloc _) ⟨w2.heap.size, 0, none⟩ 1 rfl ((Own.new _ _ _).cell 0) (by have := hxm'.out; omega) (by have := hB.size; simp; omega) ?_; intro g2 cap2 w8 hI2 hG2; have hB8 := (hB.alloc hB.size _).grown hG2 (by have := hB.size; simp; omega) (fun b e => by have := hI.1; simp at e; omega))
      | (go_at_call 32; ((with_reducible refine (hc.out _ hR'.out).mono ?_); rintro e w1 ⟨rfl, rfl⟩))
      | (go_at_call 40; ((with_reducible refine (hown.out _ hR'.out).mono ?_); rintro e w2 ⟨⟨g, c2, rfl, hI⟩, hB⟩)))
    go_ret2
    exact ⟨_, _, rfl, Mn.ints (Nat.le_refl _) hI2, hB8⟩
set_option maxRecDepth 100000 in
set_option maxHeartbeats 4000000 in
theorem stab_walk (n : Int) (s : Int) (p : Option Addr) (cap : Nat) (xs : List Int) (w : World) (hx : xs.length ≤ 1048576) (hR : Rd w p xs) (rs : List Int) (hlr : rs.length ≤ 1048576) (cd : Int)
    (hS : ∀ w (q : Addr), Rd w (some q) xs → Calls Try.prog 26 #[.int .i64 n, .slice (some q) xs.length xs.length, .int .i64 s] w (ResI rs cd w))
    (hI : ∀ w (q : Addr), Rd w (some q) xs → Calls Try.prog 27 #[.int .i64 n, .slice (some q) xs.length xs.length, .int .i64 s] w (ResI rs cd w)) :
    Calls Try.prog 9 #[.int .i64 n, .slice p xs.length cap, .int .i64 s] w fun e w' => e = .returned (.bool true) ∧ Below w.heap.size w w' := by
  obtain ⟨l1, hm1⟩ : ∃ m, rs.length = m := ⟨_, rfl⟩
  obtain ⟨l0, hm0⟩ : ∃ m, xs.length = m := ⟨_, rfl⟩
  have he1 := Lib.hid (fun p q cap cap' w hR hQ => eqI_same p q cap cap' rs (by omega) w hR hQ)
  have he0 := Lib.hid (fun p q cap cap' w hR hQ => eqI_same p q cap cap' xs (by omega) w hR hQ)
  have hk1 := Lib.hid (fun B p cap w hM hB => mark_all B p cap rs (by omega) 1 (by omega) (by omega) w hM hB)
  have hk0 := Lib.hid (fun B p cap w hM hB => mark_all B p cap xs (by omega) 1 (by omega) (by omega) w hM hB)
  have hh1 := Lib.hid (fun p cap w hR => held_any p cap l1 (by omega) 1 (by omega) (by omega) w hR)
  have hc := Lib.hid (fun w hR => toI_any p cap xs hx w hR)
  have hrs : ∀ w e w', ResI rs cd w e w' → ∃ (p : Option Addr) (cap : Nat), e = .returned (.tuple #[.slice p l1 cap, .int .i64 cd]) ∧ Mn w' w.heap.size p rs ∧ Below w.heap.size w w' := fun w e w' h => by
    obtain ⟨p, cap, h1, h2⟩ := h
    rw [hm1] at h1
    exact ⟨p, cap, h1, h2⟩
  have hS' := Lib.hid (fun w q hR => (hS w q hR).mono (fun e w' h => hrs w e w' h))
  have hI' := Lib.hid (fun w q hR => (hI w q hR).mono (fun e w' h => hrs w e w' h))
  have hR' := Lib.hid hR
  have ll1 : l1 ≤ 1048576 := by omega
  have ll0 : l0 ≤ 1048576 := by omega
  have hx' : ¬ (1048576 : Int) < (l0 : Int) := by omega
  rw [hm1] at he1 hk1
  rw [hm0] at he0 hk0 hc hS' hI' ⊢
  clear hS hI hm1 hm0 hlr hrs hR hx
  go_enter Try.func9, Try.ntmps9
  go_wp2_with (first
    | (go_at_call 19; ((with_reducible refine (hh1.out _ _ w13 (((hp10.below hB11 (Nat.le_refl _)).below hB12 (Nat.le_refl _)).below hB13 (Nat.le_refl _)).rd).mono ?_); rintro e w14 ⟨rfl, rfl⟩))
    | (go_at_call 15; ((with_reducible refine (he1.out _ _ _ _ w12 hr1.rd (hq1.below c12 (Nat.le_refl _)).rd).mono ?_); rintro e w13 ⟨rfl, hB13⟩; have b13 := b12.trans (hB13.mono b12.size)))
    | (go_at_call 27; ((with_reducible refine (hI'.out w11 _ (Rd.own hO11)).mono ?_); rintro e w12 ⟨r1, rc1, rfl, hr1, hB12⟩; have b12 := b11.trans (hB12.mono b11.size); have c12 := c11.trans (hB12.mono c11.size)))
    | (go_at_call 13; ((with_reducible refine (hc.out w10 (hR'.out.below b10)).mono ?_); rintro e w11 ⟨rfl, hO11, hB11⟩; have b11 := b10.trans (hB11.mono b10.size); have c11 := c10.trans (hB11.mono c10.size)))
    | (go_at_call 19; ((with_reducible refine (hh1.out _ _ w10x hp10'.rd).mono ?_); rintro e w10 ⟨rfl, rfl⟩; have hp10 := hp10'))
    | (go_at_call 18; ((with_reducible refine (hk1.out w3.heap.size _ _ w9 (hp8.below hB9 (Nat.le_refl _)) s39).mono ?_); rintro e w10x ⟨rfl, hp10', hB10, hX10⟩; have b10 := b9.trans (hB10.mono b3.size); have c10 := c9.trans (hB10.mono c3.size)))
    | (go_at_call 15; ((with_reducible refine (he1.out _ _ _ _ w8 hp8.rd (hq1.below c8 (Nat.le_refl _)).rd).mono ?_); rintro e w9 ⟨rfl, hB9⟩; have b9 := b8.trans (hB9.mono b8.size); have c9 := c8.trans (hB9.mono c8.size); have s39 := Nat.le_trans s38 hB9.size))
    | (go_at_call 18; ((with_reducible refine (hk0.out w2.heap.size _ _ w7 hx7 s27).mono ?_); rintro e w8 ⟨rfl, hx8, hB8, hX8⟩; have b8 := b7.trans (hB8.mono b2.size); have c8 := c7.trans hB8; have hp8 := (hX8 p1 rs (hp7.weak (Nat.le_of_lt s23)) (fun a e => hp7.ne s23 e)).base hp7; have s38 := Nat.le_trans s37 hB8.size))
    | (go_at_call 15; ((with_reducible refine (he0.out _ _ _ _ w6 (Rd.own hO36) (Rd.own hO6)).mono ?_); rintro e w7 ⟨rfl, hB7⟩; have b7 := b6.trans (hB7.mono b6.size); have c7 := c6.trans (hB7.mono c6.size); have hp7 := hp6.below hB7 (Nat.le_refl _); have hx7 := Mn.new (Nat.le_refl _) (hO36.below hB7 hO36.lt); have s27 := c7.size; have s37 := Nat.le_trans s36 hB7.size))
    | (go_at_call 13; ((with_reducible refine (hc.out w5 (hR'.out.below b5)).mono ?_); rintro e w6 ⟨rfl, hO6, hB6⟩; have b6 := b5.trans (hB6.mono b5.size); have c6 := c5.trans (hB6.mono c5.size); have hO36 := hO35.below hB6 hO35.lt; have hp6 := hp5.below hB6 (Nat.le_refl _); have s36 := Nat.le_trans s35 hB6.size))
    | (go_at_call 15; ((with_reducible refine (he1.out _ _ _ _ w4 hp1.rd (hq1.below c4 (Nat.le_refl _)).rd).mono ?_); rintro e w5 ⟨rfl, hB5⟩; have b5 := b4.trans (hB5.mono b4.size); have c5 := c4.trans (hB5.mono c4.size); have hO35 := hO34.below hB5 hO34.lt; have hp5 := hp1.below hB5 (Nat.le_refl _); have s35 := Nat.le_trans hB4.size hB5.size))
    | (go_at_call 27; ((with_reducible refine (hI'.out w3 _ (Rd.own hO3)).mono ?_); rintro e w4 ⟨p1, pc1, rfl, hp1, hB4⟩; have b4 := b3.trans (hB4.mono b3.size); have c4 := c3.trans (hB4.mono c3.size); have hO34 := hO3.below hB4 hO3.lt))
    | (go_at_call 13; ((with_reducible refine (hc.out w2 (hR'.out.below b2)).mono ?_); rintro e w3 ⟨rfl, hO3, hB3⟩; have b3 := b2.trans (hB3.mono b2.size); have c3 := hB3; have s23 := hO3.lt))
    | (go_at_call 26; ((with_reducible refine (hS'.out w1 _ (Rd.own hO1)).mono ?_); rintro e w2 ⟨q1, qc1, rfl, hq1, hB2⟩; have b2 := hB1.trans (hB2.mono hB1.size)))
    | (go_at_call 13; ((with_reducible refine (hc.out w hR'.out).mono ?_); rintro e w1 ⟨rfl, hO1, hB1⟩)))
  go_ret
  exact ⟨rfl, b13⟩
theorem stab_big (n : Int) (s : Int) (p : Option Addr) (cap : Nat) (len : Nat) (w : World) (hm : len ≤ maxLen) (h : 1048576 < len) : Calls Try.prog 9 #[.int .i64 n, .slice p len cap, .int .i64 s] w fun e w' => e = .returned (.bool true) ∧ Below w.heap.size w w' := by
  unfold maxLen at hm
  have h' : (1048576 : Int) < (len : Int) := by omega
  go_enter Try.func9, Try.ntmps9
  go_wp2
  go_ret
  exact ⟨rfl, Below.refl _ _⟩
theorem sign_cases {s : Int} (h : signB s = true) (n : Int) : ∃ y, s = 1 ∧ y = n ∨ s = -1 ∧ y = -n := by
  have : s = 1 ∨ s = -1 := by simpa [signB] using h
  rcases this with rfl | rfl
  · exact ⟨_, .inl ⟨rfl, rfl⟩⟩
  · exact ⟨_, .inr ⟨rfl, rfl⟩⟩
theorem stab_law (n : Int) (p : Option Addr) (cap : Nat) (xs : List Int) (s : Int) (w : World) (hm : xs.length ≤ maxLen) (hR : Rd w p xs) :
    Calls Try.prog 9 #[.int .i64 n, .slice p xs.length cap, .int .i64 s] w fun e w' => e = .returned (.bool true) ∧ Below w.heap.size w w' := by
  by_cases h : xs.length ≤ 1048576
  · cases hb : brdB n xs with
    | false => exact stab_walk n s p cap xs w h hR [] (by simp) 2 (fun w q hR => stabS_b1 n s _ _ xs w h hR hb) (fun w q hR => stabI_b1 n s _ _ xs w h hR hb)
    | true =>
      by_cases h5 : n ≤ 5
      · cases hs : signB s with
        | false => exact stab_walk n s p cap xs w h hR [] (by simp) 2 (fun w q hR => stabS_b3 n s _ _ xs w h hR ⟨hb, h5, hs⟩) (fun w q hR => stabI_b3 n s _ _ xs w h hR ⟨hb, h5, hs⟩)
        | true =>
          obtain ⟨y, hy⟩ := sign_cases hs n
          have hs' : s = 1 ∨ s = -1 := by omega
          by_cases hl : 24 ≤ xs.length
          · exact stab_walk n s p cap xs w h hR [] (by simp) 3 (fun w q hR => stabS_long n s _ _ xs w h hR ⟨hb, h5, hs', hl⟩) (fun w q hR => stabI_long n s _ _ xs w h hR ⟨hb, h5, hs', hl⟩)
          · exact stab_walk n s p cap xs w h hR (xs ++ [y]) (by simp; omega) 0 (fun w q hR => stabS_ok n _ _ xs s y w hR ⟨hb, h5, hy, by omega⟩) (fun w q hR => stabI_ok n _ _ xs s y w hR ⟨hb, h5, hy, by omega⟩)
      · exact stab_walk n s p cap xs w h hR [] (by simp) 2 (fun w q hR => stabS_b2 n s _ _ xs w h hR ⟨hb, by omega⟩) (fun w q hR => stabI_b2 n s _ _ xs w h hR ⟨hb, by omega⟩)
  · exact stab_big n s p cap xs.length w hm (by omega)
end Go.Proofs.Ytfhplhnaijhjlaa
