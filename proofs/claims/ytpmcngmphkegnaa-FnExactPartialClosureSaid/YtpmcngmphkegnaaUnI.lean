/- Contracts of the program's union. -/
import Derived.Test.YtpmcngmphkegnaaMoveL
import Derived.Test.YtpmcngmphkegnaaKc
namespace Go.Proofs.Ytpmcngmphkegnaa
open Go.RowKit
set_option linter.unusedVariables false
theorem unionC1_enters (args : Array Value) (w : World) : (callFunc 114 args).run Try.prog w = .ok (.enter 114 args) w := by kernel_rfl
theorem unionC2_enters (args : Array Value) (w : World) : (callFunc 115 args).run Try.prog w = .ok (.enter 115 args) w := by kernel_rfl
/-- Where the points of the left and of the right part go. -/
def un1 (n m i : Int) : Int := if i < n then i else i + m
def un2 (n m i : Int) : Int := if i < m then i + n else i + 2 * n
theorem un1_bd (n m i : Int) (h1 : 1 ≤ n) (h2 : 1 ≤ m) (h8 : n + m ≤ 8) (h0 : 0 ≤ i) (h3 : i < 2 * n) : 0 ≤ un1 n m i ∧ un1 n m i < 16 := by
  unfold un1; split <;> omega
theorem un2_bd (n m i : Int) (h1 : 1 ≤ n) (h2 : 1 ≤ m) (h8 : n + m ≤ 8) (h0 : 0 ≤ i) (h3 : i < 2 * m) : 0 ≤ un2 n m i ∧ un2 n m i < 16 := by
  unfold un2; split <;> omega
set_option maxRecDepth 100000 in
theorem unionC1_any (n m i : Int) (p q : Nat) (w : World) (h1 : 1 ≤ n) (h2 : 1 ≤ m) (h8 : n + m ≤ 8) (h0 : 0 ≤ i) (h3 : i < 2 * n) (hp : Own w p #[.int .i64 n] 2) (hq : Own w q #[.int .i64 m] 2) :
    Calls Try.prog 114 (#[.int .i64 i] ++ #[.pointer (some ⟨p, 0, none⟩), .pointer (some ⟨q, 0, none⟩)]) w fun e w' => e = .returned (.int .i64 (un1 n m i)) ∧ w' = w := by
  have k0 : w.cell? ⟨p, 0, none⟩ = some (.int .i64 n) := hp.cell 0
  have k1 : w.cell? ⟨q, 0, none⟩ = some (.int .i64 m) := hq.cell 0
  show Calls Try.prog _ #[.int .i64 i, .pointer (some ⟨p, 0, none⟩), .pointer (some ⟨q, 0, none⟩)] w _
  unfold un1
  go_enter Try.func114, Try.ntmps114
  by_cases h : i < n
  · rw [if_pos h]
    go_wp2
    go_ret
    exact ⟨rfl, rfl⟩
  · rw [if_neg h]
    go_wp2
    go_ret
    exact ⟨rfl, rfl⟩
set_option maxRecDepth 100000 in
theorem unionC2_any (n m i : Int) (p q : Nat) (w : World) (h1 : 1 ≤ n) (h2 : 1 ≤ m) (h8 : n + m ≤ 8) (h0 : 0 ≤ i) (h3 : i < 2 * m) (hp : Own w p #[.int .i64 n] 2) (hq : Own w q #[.int .i64 m] 2) :
    Calls Try.prog 115 (#[.int .i64 i] ++ #[.pointer (some ⟨q, 0, none⟩), .pointer (some ⟨p, 0, none⟩)]) w fun e w' => e = .returned (.int .i64 (un2 n m i)) ∧ w' = w := by
  have k0 : w.cell? ⟨p, 0, none⟩ = some (.int .i64 n) := hp.cell 0
  have k1 : w.cell? ⟨q, 0, none⟩ = some (.int .i64 m) := hq.cell 0
  show Calls Try.prog _ #[.int .i64 i, .pointer (some ⟨q, 0, none⟩), .pointer (some ⟨p, 0, none⟩)] w _
  unfold un2
  go_enter Try.func115, Try.ntmps115
  by_cases h : i < m
  · rw [if_pos h]
    go_wp2
    go_ret
    exact ⟨rfl, rfl⟩
  · rw [if_neg h]
    go_wp2
    go_ret
    exact ⟨rfl, rfl⟩
set_option maxRecDepth 100000 in
set_option maxHeartbeats 1000000 in
theorem UnionDiagramI_bad1 (n m : Int) (ms es : List Int) (hms : ms.length = 16) (hb : Bytes ms) (hd : isD n ms = false) (w : World) :
    Calls Try.prog 76 #[.agg (dcells n ms), .agg (dcells m es)] w fun e w' => e = .returned (.tuple #[.agg zcells, .int .i64 1]) ∧ Below w.heap.size w w' := by
  have hl := Lib.hid hms
  have hc := Lib.hid (fun w => isI_any n ms hms hb w)
  rw [hd] at hc
  clear hms hb hd
  go_enter Try.func76, Try.ntmps76
  go_wp2_with (first
    | (refine wpList_load_row rfl 68 _ rfl _ rfl 68 _ (0, 0) _ (((Own.new _ _ _).alloc _).alloc _) Try.underlying68 rfl (row26 (d17 _ _ (hl.out))) ?_)
    | (go_at_call 99; ((with_reducible refine (hc.out _).mono ?_); rintro e w1 ⟨rfl, hB1⟩; have hR1 : Own w1 (w.heap.size + 1 + 1) zcells 68 := (Own.at _ _ _ (by simp)).below hB1 (by simp); have hBw : Below w.heap.size w w1 := ((((Below.refl w.heap.size w).alloc (Nat.le_refl _) _).alloc (by simp) _).alloc (by simp <;> omega) _).trans (hB1.mono (by simp <;> omega)); clear hB1))
    | (refine wpList_build_of rfl 68 #[] rfl zcells ?_ ?_; (exact built26nil))
    | (refine wpList_store_own rfl 68 _ _ rfl _ _ rfl rfl 68 _ (hR1) (row26 (d17 _ _ (zlen))) (rfl) (dcells_one _ _) ?_; intro w4 hO4 hN4))
  refine bodyPost_ret (v := .tuple #[.agg (zcells), .int .i64 1]) (results_row_tmp rfl _ _ _ _ _ (0, 0) _ rfl (hO4) Try.underlying68 rfl (row26 (d17 _ _ (zlen))) _ rfl) rfl (⟨rfl, hBw.trans (hN4.below.mono (by omega))⟩)
set_option maxRecDepth 100000 in
set_option maxHeartbeats 1000000 in
theorem UnionDiagramI_bad2 (n m : Int) (ms es : List Int) (hms : ms.length = 16) (hes : es.length = 16) (hb : Bytes ms) (hb2 : Bytes es) (hd : isD n ms = true) (hd2 : isD m es = false) (w : World) :
    Calls Try.prog 76 #[.agg (dcells n ms), .agg (dcells m es)] w fun e w' => e = .returned (.tuple #[.agg zcells, .int .i64 1]) ∧ Below w.heap.size w w' := by
  have hl := Lib.hid hms
  have hl2 := Lib.hid hes
  have hc := Lib.hid (fun w => isI_any n ms hms hb w)
  have hc2 := Lib.hid (fun w => isI_any m es hes hb2 w)
  rw [hd] at hc
  rw [hd2] at hc2
  clear hms hb hd hes hb2 hd2
  go_enter Try.func76, Try.ntmps76
  go_wp2_with (first
    | (refine wpList_load_row rfl 68 _ rfl _ rfl 68 _ (0, 0) _ (((Own.new _ _ _).alloc _).alloc _) Try.underlying68 rfl (row26 (d17 _ _ (hl.out))) ?_)
    | (refine wpList_load_row_if rfl 68 _ rfl _ rfl 68 _ _ hE1 Try.underlying68 rfl (row26 (d17 _ _ hl2.out)) ?_)
    | (go_at_call 99; ((with_reducible refine (hc2.out w1).mono ?_); rintro e w2 ⟨rfl, hB2⟩))
    | (go_at_call 99; ((with_reducible refine (hc.out _).mono ?_); rintro e w1 ⟨rfl, hB1⟩; have hR1 : Own w1 (w.heap.size + 1 + 1) zcells 68 := (Own.at _ _ _ (by simp)).below hB1 (by simp); have hE1 : Own w1 (w.heap.size + 1) (dcells m es) 68 := ((Own.at _ _ _ (by simp)).alloc _).below hB1 (by simp <;> omega); have hBw : Below w.heap.size w w1 := ((((Below.refl w.heap.size w).alloc (Nat.le_refl _) _).alloc (by simp) _).alloc (by simp <;> omega) _).trans (hB1.mono (by simp <;> omega)); clear hB1))
    | (refine wpList_build_of rfl 68 #[] rfl zcells ?_ ?_; (exact built26nil))
    | (refine wpList_store_own rfl 68 _ _ rfl _ _ rfl rfl 68 _ (hR1.below hB2 hR1.lt) (row26 (d17 _ _ (zlen))) (rfl) (dcells_one _ _) ?_; intro w4 hO4 hN4))
  refine bodyPost_ret (v := .tuple #[.agg (zcells), .int .i64 1]) (results_row_tmp rfl _ _ _ _ _ (0, 0) _ rfl (hO4) Try.underlying68 rfl (row26 (d17 _ _ (zlen))) _ rfl) rfl (⟨rfl, (hBw.trans (hB2.mono hBw.size)).trans (hN4.below.mono (by omega))⟩)
/-- The mates of a union. -/
def unL (n m : Int) (ms es : List Int) : List Int := mvL (un2 n m) es (mvL (un1 n m) ms zeros (2 * n).toNat) (2 * m).toNat
/-- Two pointers to blocks that are there, and not to one block. -/
def Two (x y : Value) (w : World) : Prop :=
  (∀ p : Nat, x = .pointer (some ⟨p, 0, none⟩) → p < w.heap.size) ∧ (∀ p : Nat, y = .pointer (some ⟨p, 0, none⟩) → p < w.heap.size) ∧ ∀ p q : Nat, x = .pointer (some ⟨p, 0, none⟩) → y = .pointer (some ⟨q, 0, none⟩) → p ≠ q
theorem Two.start (w : World) : Two undef undef w := ⟨by intro p h; simp [undef] at h, by intro p h; simp [undef] at h, by intro p q h; simp [undef] at h⟩
theorem Two.grow {x y : Value} {w w' : World} (h : Two x y w) (hs : w.heap.size ≤ w'.heap.size) : Two x y w' :=
  ⟨fun p e => Nat.lt_of_lt_of_le (h.1 p e) hs, fun p e => Nat.lt_of_lt_of_le (h.2.1 p e) hs, h.2.2⟩
theorem Two.left {x y : Value} {w : World} (h : Two x y w) (o : Obj) : Two (.pointer (some ⟨w.heap.size, 0, none⟩)) y (w.alloc o) :=
  ⟨fun p e => by simp at e; subst e; simp, fun p e => Nat.lt_of_lt_of_le (h.2.1 p e) (by simp), fun p q e e' => by
    simp at e; subst e
    exact Ne.symm (Nat.ne_of_lt (h.2.1 q e'))⟩
theorem Two.right {x y : Value} {w : World} (h : Two x y w) (o : Obj) : Two x (.pointer (some ⟨w.heap.size, 0, none⟩)) (w.alloc o) :=
  ⟨fun p e => Nat.lt_of_lt_of_le (h.1 p e) (by simp), fun p e => by simp at e; subst e; simp, fun p q e e' => by
    simp at e'; subst e'
    exact Nat.ne_of_lt (h.1 p e)⟩
set_option maxRecDepth 100000 in
set_option maxHeartbeats 2000000 in
theorem UnionDiagramI_lim (n m : Int) (ms es : List Int) (hms : ms.length = 16) (hes : es.length = 16) (hb : Bytes ms) (hb2 : Bytes es) (hd : isD n ms = true) (hd2 : isD m es = true) (h : 8 < n + m) (w : World) :
    Calls Try.prog 76 #[.agg (dcells n ms), .agg (dcells m es)] w fun e w' => e = .returned (.tuple #[.agg zcells, .int .i64 3]) ∧ Below w.heap.size w w' := by
  have hl := Lib.hid hms
  have hl2 := Lib.hid hes
  have hc := Lib.hid (fun w => isI_any n ms hms hb w)
  have hc2 := Lib.hid (fun w => isI_any m es hes hb2 w)
  have hIs := (isD_iff n ms hms hb).1 hd
  have hIs2 := (isD_iff m es hes hb2).1 hd2
  rw [hd] at hc
  rw [hd2] at hc2
  obtain ⟨h1, h8⟩ := hIs.1
  obtain ⟨h1', h8'⟩ := hIs2.1
  clear hms hb hd hes hb2 hd2 hIs hIs2
  go_enter Try.func76, Try.ntmps76
  go_wp2_with (first
    | (refine wpList_load_row rfl 68 _ rfl _ rfl 68 _ (0, 0) _ (((Own.new _ _ _).alloc _).alloc _) Try.underlying68 rfl (row26 (d17 _ _ (hl.out))) ?_)
    | (refine wpList_load_row_if rfl 68 _ rfl _ rfl 68 _ _ hE1 Try.underlying68 rfl (row26 (d17 _ _ hl2.out)) ?_)
    | (go_at_call 99; ((with_reducible refine (hc2.out w1).mono ?_); rintro e w2 ⟨rfl, hB2⟩))
    | (go_at_call 99; ((with_reducible refine (hc.out _).mono ?_); rintro e w1 ⟨rfl, hB1⟩; have hR1 : Own w1 (w.heap.size + 1 + 1) zcells 68 := (Own.at _ _ _ (by simp)).below hB1 (by simp); have hD1 : Own w1 w.heap.size (dcells n ms) 68 := (((Own.new _ _ _).alloc _).alloc _).below hB1 (by simp <;> omega); have hE1 : Own w1 (w.heap.size + 1) (dcells m es) 68 := ((Own.at _ _ _ (by simp)).alloc _).below hB1 (by simp <;> omega); have hBw : Below w.heap.size w w1 := ((((Below.refl w.heap.size w).alloc (Nat.le_refl _) _).alloc (by simp) _).alloc (by simp <;> omega) _).trans (hB1.mono (by simp <;> omega)); clear hB1)))
  have hD1 : Own w2.drew w.heap.size (dcells n ms) 68 := by have := hD1.below hB2 hD1.lt; exact this
  have hD2 : Own w2.drew (w.heap.size + 1) (dcells m es) 68 := by have := hE1.below hB2 hE1.lt; exact this
  have hR2 : Own w2.drew (w.heap.size + 1 + 1) zcells 68 := by have := hR1.below hB2 hR1.lt; exact this
  have b2 : Below w.heap.size w w2.drew := (hBw.trans (hB2.mono hBw.size)).drew
  obtain ⟨wd, hwd⟩ : ∃ wd, w2.drew = wd := ⟨_, rfl⟩
  rw [hwd] at hD1 hD2 hR2 b2
  have hlt1 := hD1.lt
  have hlt2 := hD2.lt
  have hlt3 := hR2.lt
  refine wp_region_facts (by kernel_rfl) (by kernel_rfl) (fun a w' => ∃ x6 x7 x18 x19 x20 x21 : Value, a = ⟨List.toArray [.agg (dcells n ms), .agg (dcells m es), .pointer (some ⟨w.heap.size, 0, none⟩), .pointer (some ⟨w.heap.size + 1, 0, none⟩), .pointer (some ⟨w.heap.size + 2, 0, none⟩), .int .i64 0, x6, x7, undef, .agg (dcells n ms), .bool true, .bool false, .bool false, .agg (dcells m es), .bool true, .bool false, .bool false, undef, x18, x19, x20, x21, undef, undef, undef, undef, undef, undef, undef, undef, undef, undef, undef, undef, undef, undef, undef, undef, undef, undef, undef], []⟩ ∧ Below wd.heap.size wd w' ∧ Two x6 x7 w') (fun j a w' => match j with | 0 => sl a 18 = .pointer (some ⟨w.heap.size, 0, none⟩) | 1 => sl a 19 = .int .i64 n | 2 => sl a 20 = .pointer (some ⟨w.heap.size + 1, 0, none⟩) | 3 => sl a 21 = .int .i64 m | 4 => ∃ p, wd.heap.size ≤ p ∧ sl a 6 = .pointer (some ⟨p, 0, none⟩) ∧ ∃ v, Own w' p #[v] 2 | 5 => ∃ p, wd.heap.size ≤ p ∧ sl a 7 = .pointer (some ⟨p, 0, none⟩) ∧ ∃ v, Own w' p #[v] 2 | 6 => ∃ p, wd.heap.size ≤ p ∧ sl a 6 = .pointer (some ⟨p, 0, none⟩) ∧ Own w' p #[.int .i64 n] 2 | 7 => ∃ p, wd.heap.size ≤ p ∧ sl a 7 = .pointer (some ⟨p, 0, none⟩) ∧ Own w' p #[.int .i64 m] 2 | _ => True) ⟨_, _, _, _, _, _, rfl, by rw [← hwd]; exact Below.refl _ _, Two.start _⟩ ?_ ?_
  · refine (AllOps.cons ?_ (AllOps.cons ?_ (AllOps.cons ?_ (AllOps.cons ?_ (AllOps.cons ?_ (AllOps.cons ?_ (AllOps.cons ?_ (AllOps.cons ?_ AllOps.nil))))))))
    · rintro a w0 ⟨x6, x7, x18, x19, x20, x21, rfl, hB, hT⟩ hd K hK
      go_wp2
      refine hK _ _ ⟨_, _, _, _, _, _, rfl, hB, hT⟩ (rfl) ?_
      rintro (_|_|_|_|_|_|_|_|_) hj hn h <;> first | exact h | exact absurd rfl hj | exact waits_no hn (by kernel_rfl)
    · rintro a w0 ⟨x6, x7, x18, x19, x20, x21, rfl, hB, hT⟩ hd K hK
      have d0 : x18 = _ := hd 0 (by kernel_rfl)
      subst d0
      have k0 := ((hD1.below hB hlt1).cell 0).trans (dcells_zero n ms)
      go_wp2
      refine hK _ _ ⟨_, _, _, _, _, _, rfl, hB, hT⟩ (rfl) ?_
      rintro (_|_|_|_|_|_|_|_|_) hj hn h <;> first | exact h | exact absurd rfl hj | exact waits_no hn (by kernel_rfl)
    · rintro a w0 ⟨x6, x7, x18, x19, x20, x21, rfl, hB, hT⟩ hd K hK
      go_wp2
      refine hK _ _ ⟨_, _, _, _, _, _, rfl, hB, hT⟩ (rfl) ?_
      rintro (_|_|_|_|_|_|_|_|_) hj hn h <;> first | exact h | exact absurd rfl hj | exact waits_no hn (by kernel_rfl)
    · rintro a w0 ⟨x6, x7, x18, x19, x20, x21, rfl, hB, hT⟩ hd K hK
      have d0 : x20 = _ := hd 2 (by kernel_rfl)
      subst d0
      have k0 := ((hD2.below hB hlt2).cell 0).trans (dcells_zero m es)
      go_wp2
      refine hK _ _ ⟨_, _, _, _, _, _, rfl, hB, hT⟩ (rfl) ?_
      rintro (_|_|_|_|_|_|_|_|_) hj hn h <;> first | exact h | exact absurd rfl hj | exact waits_no hn (by kernel_rfl)
    · rintro a w0 ⟨x6, x7, x18, x19, x20, x21, rfl, hB, hT⟩ hd K hK
      go_wp2
      refine hK _ _ ⟨_, _, _, _, _, _, rfl, hB.alloc hB.size _, hT.left _⟩ (⟨_, hB.size, rfl, _, Own.new _ _ _⟩) ?_
      rintro (_|_|_|_|_|_|_|_|_) hj hn h <;> first | exact h | exact absurd rfl hj | (obtain ⟨p, hp, e, v, hO⟩ := h; exact ⟨p, hp, e, v, hO.alloc _⟩) | (obtain ⟨p, hp, e, hO⟩ := h; exact ⟨p, hp, e, hO.alloc _⟩) | exact waits_no hn (by kernel_rfl)
    · rintro a w0 ⟨x6, x7, x18, x19, x20, x21, rfl, hB, hT⟩ hd K hK
      go_wp2
      refine hK _ _ ⟨_, _, _, _, _, _, rfl, hB.alloc hB.size _, hT.right _⟩ (⟨_, hB.size, rfl, _, Own.new _ _ _⟩) ?_
      rintro (_|_|_|_|_|_|_|_|_) hj hn h <;> first | exact h | exact absurd rfl hj | (obtain ⟨p, hp, e, v, hO⟩ := h; exact ⟨p, hp, e, v, hO.alloc _⟩) | (obtain ⟨p, hp, e, hO⟩ := h; exact ⟨p, hp, e, hO.alloc _⟩) | exact waits_no hn (by kernel_rfl)
    · rintro a w0 ⟨x6, x7, x18, x19, x20, x21, rfl, hB, hT⟩ hd K hK
      have d0 : x19 = _ := hd 1 (by kernel_rfl)
      have d8 := hd 4 (by kernel_rfl)
      obtain ⟨p, hp, e, v, hO⟩ := d8
      have e : x6 = _ := e
      subst d0 e
      have hne := fun p' (e' : x7 = .pointer (some ⟨p', 0, none⟩)) => hT.2.2 p p' rfl e'
      have c1 := hO.cell 0
      have f1 := hO.free 0
      have hO2 : Own (w0.setCell ⟨p, 0, none⟩ (.int .i64 n)) p #[.int .i64 n] 2 := hO.set 0 _
      go_wp2
      refine hK _ _ ⟨_, _, _, _, _, _, rfl, hB.setCell hp _, hT.grow (by simp [World.setCell])⟩ (⟨p, hp, rfl, hO2⟩) ?_
      rintro (_|_|_|_|_|_|_|_|_) hj hn h <;> first | exact h | exact absurd rfl hj | (obtain ⟨p', hp', e', v', hO'⟩ := h; have e' : x7 = _ := e'; exact ⟨p', hp', e', v', hO'.other (hne _ e') _⟩) | (obtain ⟨p', hp', e', hO'⟩ := h; have e' : x7 = _ := e'; exact ⟨p', hp', e', hO'.other (hne _ e') _⟩) | exact ⟨p, hp, rfl, _, hO2⟩ | exact waits_no hn (by kernel_rfl)
    · rintro a w0 ⟨x6, x7, x18, x19, x20, x21, rfl, hB, hT⟩ hd K hK
      have d0 : x21 = _ := hd 3 (by kernel_rfl)
      have d8 := hd 5 (by kernel_rfl)
      obtain ⟨p, hp, e, v, hO⟩ := d8
      have e : x7 = _ := e
      subst d0 e
      have hne := fun p' (e' : x6 = .pointer (some ⟨p', 0, none⟩)) => Ne.symm (hT.2.2 p' p e' rfl)
      have c1 := hO.cell 0
      have f1 := hO.free 0
      have hO2 : Own (w0.setCell ⟨p, 0, none⟩ (.int .i64 m)) p #[.int .i64 m] 2 := hO.set 0 _
      go_wp2
      refine hK _ _ ⟨_, _, _, _, _, _, rfl, hB.setCell hp _, hT.grow (by simp [World.setCell])⟩ (⟨p, hp, rfl, hO2⟩) ?_
      rintro (_|_|_|_|_|_|_|_|_) hj hn h <;> first | exact h | exact absurd rfl hj | (obtain ⟨p', hp', e', v', hO'⟩ := h; have e' : x6 = _ := e'; exact ⟨p', hp', e', v', hO'.other (hne _ e') _⟩) | (obtain ⟨p', hp', e', hO'⟩ := h; have e' : x6 = _ := e'; exact ⟨p', hp', e', hO'.other (hne _ e') _⟩) | exact ⟨p, hp, rfl, _, hO2⟩ | exact waits_no hn (by kernel_rfl)
  · rintro a w3 ⟨x6, x7, x18, x19, x20, x21, rfl, hB, hT⟩ hF
    have d6 := hF 6 (by decide)
    obtain ⟨p, hp, e, hP⟩ := d6
    have e : x6 = _ := e
    subst e
    have d7 := hF 7 (by decide)
    obtain ⟨q, hq, e, hQ⟩ := d7
    have e : x7 = _ := e
    subst e
    have hpq : p ≠ q := hT.2.2 p q rfl rfl
    have hD4 := hD1.below hB hlt1
    have hE4 := hD2.below hB hlt2
    have hR4 := hR2.below hB hlt3
    have b4 : Below w.heap.size w w3 := b2.trans (hB.mono b2.size)
    have kp : w3.cell? ⟨p, 0, none⟩ = some (.int .i64 n) := hP.cell 0
    have kq : w3.cell? ⟨q, 0, none⟩ = some (.int .i64 m) := hQ.cell 0
    have hws := b2.size
    clear hB hT hF hwd b2 hD1 hD2 hR2
    go_wp2_with (first
      | (refine wpList_build_of rfl 68 #[] rfl zcells ?_ ?_; (exact built26nil))
      | (refine wpList_store_own rfl 68 _ _ rfl _ _ rfl rfl 68 _ (hR4) (row26 (d17 _ _ (zlen))) (rfl) (dcells_one _ _) ?_; intro w4 hO4 hN4))
    refine bodyPost_ret (v := .tuple #[.agg (zcells), .int .i64 3]) (results_row_tmp rfl _ _ _ _ _ (0, 0) _ rfl (hO4) Try.underlying68 rfl (row26 (d17 _ _ (zlen))) _ rfl) rfl (⟨rfl, b4.trans (hN4.below.mono (by omega))⟩)
set_option maxRecDepth 100000 in
set_option maxHeartbeats 2000000 in
theorem UnionDiagramI_ok (n m : Int) (ms es : List Int) (hms : ms.length = 16) (hes : es.length = 16) (hb : Bytes ms) (hb2 : Bytes es) (hd : isD n ms = true) (hd2 : isD m es = true) (h : n + m ≤ 8) (w : World) :
    Calls Try.prog 76 #[.agg (dcells n ms), .agg (dcells m es)] w fun e w' => e = .returned (.tuple #[.agg (dcells (n + m) (unL n m ms es)), .int .i64 0]) ∧ Below w.heap.size w w' := by
  have hl := Lib.hid hms
  have hl2 := Lib.hid hes
  have hc := Lib.hid (fun w => isI_any n ms hms hb w)
  have hc2 := Lib.hid (fun w => isI_any m es hes hb2 w)
  have hIs := (isD_iff n ms hms hb).1 hd
  have hIs2 := (isD_iff m es hes hb2).1 hd2
  rw [hd] at hc
  rw [hd2] at hc2
  obtain ⟨h1, h8⟩ := hIs.1
  obtain ⟨h1', h8'⟩ := hIs2.1
  have hml1 := Lib.hid (mvL_len (un1 n m) ms zeros zlen (2 * n).toNat)
  have hml2 := Lib.hid (mvL_len (un2 n m) es _ hml1.out (2 * m).toNat)
  have hmv1 := Lib.hid (fun (p q g : Nat) (hgp : p ≠ g) (hgq : q ≠ g) (u : World) (hu : Own u p #[.int .i64 n] 2 ∧ Own u q #[.int .i64 m] 2) (ho : Own u g (mcells zeros) 5) =>
    moveLines_any 114 #[.pointer (some ⟨p, 0, none⟩), .pointer (some ⟨q, 0, none⟩)] (fun w => Own w p #[.int .i64 n] 2 ∧ Own w q #[.int .i64 m] 2) (un1 n m) g n ms zeros hms hb hIs zlen unionC1_enters
      (fun w w' hw hm => ⟨hw.1.most hm hgp, hw.2.most hm hgq⟩) (fun w i hw h0 h2 => unionC1_any n m i p q w h1 h1' h h0 h2 hw.1 hw.2) (fun i h0 h2 => un1_bd n m i h1 h1' h h0 h2) u hu ho)
  have hmv2 := Lib.hid (fun (p q g : Nat) (hgp : p ≠ g) (hgq : q ≠ g) (u : World) (hu : Own u p #[.int .i64 n] 2 ∧ Own u q #[.int .i64 m] 2) (ho : Own u g (mcells (mvL (un1 n m) ms zeros (2 * n).toNat)) 5) =>
    moveLines_any 115 #[.pointer (some ⟨q, 0, none⟩), .pointer (some ⟨p, 0, none⟩)] (fun w => Own w p #[.int .i64 n] 2 ∧ Own w q #[.int .i64 m] 2) (un2 n m) g m es _ hes hb2 hIs2 hml1.out unionC2_enters
      (fun w w' hw hm => ⟨hw.1.most hm hgp, hw.2.most hm hgq⟩) (fun w i hw h0 h2 => unionC2_any n m i p q w h1 h1' h h0 h2 hw.1 hw.2) (fun i h0 h2 => un2_bd n m i h1 h1' h h0 h2) u hu ho)
  have hmf : ∀ (fn : Fn) (first cap : Array Value) (w : World), (Instr.makeFunc fn first cap).run Try.prog w = .ok (.func fn first cap) w := fun _ _ _ _ => rfl
  rw [show unL n m ms es = mvL (un2 n m) es (mvL (un1 n m) ms zeros (2 * n).toNat) (2 * m).toNat from rfl]
  obtain ⟨R1, hR1⟩ : ∃ R, mvL (un1 n m) ms zeros (2 * n).toNat = R := ⟨_, rfl⟩
  rw [hR1] at hmv1 hmv2 hml1 hml2 ⊢
  obtain ⟨R, hR⟩ : ∃ R, mvL (un2 n m) es R1 (2 * m).toNat = R := ⟨_, rfl⟩
  rw [hR] at hmv2 hml2 ⊢
  clear hms hb hd hes hb2 hd2 hIs hIs2 hR1 hR
  go_enter Try.func76, Try.ntmps76
  go_wp2_with (first
    | (refine wpList_load_row rfl 68 _ rfl _ rfl 68 _ (0, 0) _ (((Own.new _ _ _).alloc _).alloc _) Try.underlying68 rfl (row26 (d17 _ _ (hl.out))) ?_)
    | (refine wpList_load_row_if rfl 68 _ rfl _ rfl 68 _ _ hE1 Try.underlying68 rfl (row26 (d17 _ _ hl2.out)) ?_)
    | (go_at_call 99; ((with_reducible refine (hc2.out w1).mono ?_); rintro e w2 ⟨rfl, hB2⟩))
    | (go_at_call 99; ((with_reducible refine (hc.out _).mono ?_); rintro e w1 ⟨rfl, hB1⟩; have hR1 : Own w1 (w.heap.size + 1 + 1) zcells 68 := (Own.at _ _ _ (by simp)).below hB1 (by simp); have hD1 : Own w1 w.heap.size (dcells n ms) 68 := (((Own.new _ _ _).alloc _).alloc _).below hB1 (by simp <;> omega); have hE1 : Own w1 (w.heap.size + 1) (dcells m es) 68 := ((Own.at _ _ _ (by simp)).alloc _).below hB1 (by simp <;> omega); have hBw : Below w.heap.size w w1 := ((((Below.refl w.heap.size w).alloc (Nat.le_refl _) _).alloc (by simp) _).alloc (by simp <;> omega) _).trans (hB1.mono (by simp <;> omega)); clear hB1)))
  have hD1 : Own w2.drew w.heap.size (dcells n ms) 68 := by have := hD1.below hB2 hD1.lt; exact this
  have hD2 : Own w2.drew (w.heap.size + 1) (dcells m es) 68 := by have := hE1.below hB2 hE1.lt; exact this
  have hR2 : Own w2.drew (w.heap.size + 1 + 1) zcells 68 := by have := hR1.below hB2 hR1.lt; exact this
  have b2 : Below w.heap.size w w2.drew := (hBw.trans (hB2.mono hBw.size)).drew
  obtain ⟨wd, hwd⟩ : ∃ wd, w2.drew = wd := ⟨_, rfl⟩
  rw [hwd] at hD1 hD2 hR2 b2
  have hlt1 := hD1.lt
  have hlt2 := hD2.lt
  have hlt3 := hR2.lt
  refine wp_region_facts (by kernel_rfl) (by kernel_rfl) (fun a w' => ∃ x6 x7 x18 x19 x20 x21 : Value, a = ⟨List.toArray [.agg (dcells n ms), .agg (dcells m es), .pointer (some ⟨w.heap.size, 0, none⟩), .pointer (some ⟨w.heap.size + 1, 0, none⟩), .pointer (some ⟨w.heap.size + 2, 0, none⟩), .int .i64 0, x6, x7, undef, .agg (dcells n ms), .bool true, .bool false, .bool false, .agg (dcells m es), .bool true, .bool false, .bool false, undef, x18, x19, x20, x21, undef, undef, undef, undef, undef, undef, undef, undef, undef, undef, undef, undef, undef, undef, undef, undef, undef, undef, undef], []⟩ ∧ Below wd.heap.size wd w' ∧ Two x6 x7 w') (fun j a w' => match j with | 0 => sl a 18 = .pointer (some ⟨w.heap.size, 0, none⟩) | 1 => sl a 19 = .int .i64 n | 2 => sl a 20 = .pointer (some ⟨w.heap.size + 1, 0, none⟩) | 3 => sl a 21 = .int .i64 m | 4 => ∃ p, wd.heap.size ≤ p ∧ sl a 6 = .pointer (some ⟨p, 0, none⟩) ∧ ∃ v, Own w' p #[v] 2 | 5 => ∃ p, wd.heap.size ≤ p ∧ sl a 7 = .pointer (some ⟨p, 0, none⟩) ∧ ∃ v, Own w' p #[v] 2 | 6 => ∃ p, wd.heap.size ≤ p ∧ sl a 6 = .pointer (some ⟨p, 0, none⟩) ∧ Own w' p #[.int .i64 n] 2 | 7 => ∃ p, wd.heap.size ≤ p ∧ sl a 7 = .pointer (some ⟨p, 0, none⟩) ∧ Own w' p #[.int .i64 m] 2 | _ => True) ⟨_, _, _, _, _, _, rfl, by rw [← hwd]; exact Below.refl _ _, Two.start _⟩ ?_ ?_
  · refine (AllOps.cons ?_ (AllOps.cons ?_ (AllOps.cons ?_ (AllOps.cons ?_ (AllOps.cons ?_ (AllOps.cons ?_ (AllOps.cons ?_ (AllOps.cons ?_ AllOps.nil))))))))
    · rintro a w0 ⟨x6, x7, x18, x19, x20, x21, rfl, hB, hT⟩ hd K hK
      go_wp2
      refine hK _ _ ⟨_, _, _, _, _, _, rfl, hB, hT⟩ (rfl) ?_
      rintro (_|_|_|_|_|_|_|_|_) hj hn h <;> first | exact h | exact absurd rfl hj | exact waits_no hn (by kernel_rfl)
    · rintro a w0 ⟨x6, x7, x18, x19, x20, x21, rfl, hB, hT⟩ hd K hK
      have d0 : x18 = _ := hd 0 (by kernel_rfl)
      subst d0
      have k0 := ((hD1.below hB hlt1).cell 0).trans (dcells_zero n ms)
      go_wp2
      refine hK _ _ ⟨_, _, _, _, _, _, rfl, hB, hT⟩ (rfl) ?_
      rintro (_|_|_|_|_|_|_|_|_) hj hn h <;> first | exact h | exact absurd rfl hj | exact waits_no hn (by kernel_rfl)
    · rintro a w0 ⟨x6, x7, x18, x19, x20, x21, rfl, hB, hT⟩ hd K hK
      go_wp2
      refine hK _ _ ⟨_, _, _, _, _, _, rfl, hB, hT⟩ (rfl) ?_
      rintro (_|_|_|_|_|_|_|_|_) hj hn h <;> first | exact h | exact absurd rfl hj | exact waits_no hn (by kernel_rfl)
    · rintro a w0 ⟨x6, x7, x18, x19, x20, x21, rfl, hB, hT⟩ hd K hK
      have d0 : x20 = _ := hd 2 (by kernel_rfl)
      subst d0
      have k0 := ((hD2.below hB hlt2).cell 0).trans (dcells_zero m es)
      go_wp2
      refine hK _ _ ⟨_, _, _, _, _, _, rfl, hB, hT⟩ (rfl) ?_
      rintro (_|_|_|_|_|_|_|_|_) hj hn h <;> first | exact h | exact absurd rfl hj | exact waits_no hn (by kernel_rfl)
    · rintro a w0 ⟨x6, x7, x18, x19, x20, x21, rfl, hB, hT⟩ hd K hK
      go_wp2
      refine hK _ _ ⟨_, _, _, _, _, _, rfl, hB.alloc hB.size _, hT.left _⟩ (⟨_, hB.size, rfl, _, Own.new _ _ _⟩) ?_
      rintro (_|_|_|_|_|_|_|_|_) hj hn h <;> first | exact h | exact absurd rfl hj | (obtain ⟨p, hp, e, v, hO⟩ := h; exact ⟨p, hp, e, v, hO.alloc _⟩) | (obtain ⟨p, hp, e, hO⟩ := h; exact ⟨p, hp, e, hO.alloc _⟩) | exact waits_no hn (by kernel_rfl)
    · rintro a w0 ⟨x6, x7, x18, x19, x20, x21, rfl, hB, hT⟩ hd K hK
      go_wp2
      refine hK _ _ ⟨_, _, _, _, _, _, rfl, hB.alloc hB.size _, hT.right _⟩ (⟨_, hB.size, rfl, _, Own.new _ _ _⟩) ?_
      rintro (_|_|_|_|_|_|_|_|_) hj hn h <;> first | exact h | exact absurd rfl hj | (obtain ⟨p, hp, e, v, hO⟩ := h; exact ⟨p, hp, e, v, hO.alloc _⟩) | (obtain ⟨p, hp, e, hO⟩ := h; exact ⟨p, hp, e, hO.alloc _⟩) | exact waits_no hn (by kernel_rfl)
    · rintro a w0 ⟨x6, x7, x18, x19, x20, x21, rfl, hB, hT⟩ hd K hK
      have d0 : x19 = _ := hd 1 (by kernel_rfl)
      have d8 := hd 4 (by kernel_rfl)
      obtain ⟨p, hp, e, v, hO⟩ := d8
      have e : x6 = _ := e
      subst d0 e
      have hne := fun p' (e' : x7 = .pointer (some ⟨p', 0, none⟩)) => hT.2.2 p p' rfl e'
      have c1 := hO.cell 0
      have f1 := hO.free 0
      have hO2 : Own (w0.setCell ⟨p, 0, none⟩ (.int .i64 n)) p #[.int .i64 n] 2 := hO.set 0 _
      go_wp2
      refine hK _ _ ⟨_, _, _, _, _, _, rfl, hB.setCell hp _, hT.grow (by simp [World.setCell])⟩ (⟨p, hp, rfl, hO2⟩) ?_
      rintro (_|_|_|_|_|_|_|_|_) hj hn h <;> first | exact h | exact absurd rfl hj | (obtain ⟨p', hp', e', v', hO'⟩ := h; have e' : x7 = _ := e'; exact ⟨p', hp', e', v', hO'.other (hne _ e') _⟩) | (obtain ⟨p', hp', e', hO'⟩ := h; have e' : x7 = _ := e'; exact ⟨p', hp', e', hO'.other (hne _ e') _⟩) | exact ⟨p, hp, rfl, _, hO2⟩ | exact waits_no hn (by kernel_rfl)
    · rintro a w0 ⟨x6, x7, x18, x19, x20, x21, rfl, hB, hT⟩ hd K hK
      have d0 : x21 = _ := hd 3 (by kernel_rfl)
      have d8 := hd 5 (by kernel_rfl)
      obtain ⟨p, hp, e, v, hO⟩ := d8
      have e : x7 = _ := e
      subst d0 e
      have hne := fun p' (e' : x6 = .pointer (some ⟨p', 0, none⟩)) => Ne.symm (hT.2.2 p' p e' rfl)
      have c1 := hO.cell 0
      have f1 := hO.free 0
      have hO2 : Own (w0.setCell ⟨p, 0, none⟩ (.int .i64 m)) p #[.int .i64 m] 2 := hO.set 0 _
      go_wp2
      refine hK _ _ ⟨_, _, _, _, _, _, rfl, hB.setCell hp _, hT.grow (by simp [World.setCell])⟩ (⟨p, hp, rfl, hO2⟩) ?_
      rintro (_|_|_|_|_|_|_|_|_) hj hn h <;> first | exact h | exact absurd rfl hj | (obtain ⟨p', hp', e', v', hO'⟩ := h; have e' : x6 = _ := e'; exact ⟨p', hp', e', v', hO'.other (hne _ e') _⟩) | (obtain ⟨p', hp', e', hO'⟩ := h; have e' : x6 = _ := e'; exact ⟨p', hp', e', hO'.other (hne _ e') _⟩) | exact ⟨p, hp, rfl, _, hO2⟩ | exact waits_no hn (by kernel_rfl)
  · rintro a w3 ⟨x6, x7, x18, x19, x20, x21, rfl, hB, hT⟩ hF
    have d6 := hF 6 (by decide)
    obtain ⟨p, hp, e, hP⟩ := d6
    have e : x6 = _ := e
    subst e
    have d7 := hF 7 (by decide)
    obtain ⟨q, hq, e, hQ⟩ := d7
    have e : x7 = _ := e
    subst e
    have hpq : p ≠ q := hT.2.2 p q rfl rfl
    have hD4 := hD1.below hB hlt1
    have hE4 := hD2.below hB hlt2
    have hR4 := hR2.below hB hlt3
    have b4 : Below w.heap.size w w3 := b2.trans (hB.mono b2.size)
    have kp : w3.cell? ⟨p, 0, none⟩ = some (.int .i64 n) := hP.cell 0
    have kq : w3.cell? ⟨q, 0, none⟩ = some (.int .i64 m) := hQ.cell 0
    have hws := b2.size
    clear hB hT hF hwd b2 hD1 hD2 hR2
    have hgp := Nat.ne_of_lt hP.lt
    have hgq := Nat.ne_of_lt hQ.lt
    have hgd := Nat.ne_of_lt hD4.lt
    have hge := Nat.ne_of_lt hE4.lt
    have hgr := Nat.ne_of_lt hR4.lt
    have hsz := b4.size
    go_wp2_with (first
      | (go_at_call 108; ((with_reducible refine (newMates_any _).mono ?_); rintro e w0 ⟨rfl, rfl⟩))
      | (refine wpList_load_row rfl 68 _ rfl _ rfl 68 _ (0, 0) _ (hD4.alloc _) Try.underlying68 rfl (row26 (d17 _ _ (hl.out))) ?_)
      | (go_at_call 113; ((with_reducible refine (hmv1.out p q w3.heap.size hgp hgq _ ⟨hP.alloc _, hQ.alloc _⟩ (Own.new _ _ _)).mono ?_); rintro e w4 ⟨rfl, hS4, hG4, hM4⟩; have hE5 := (hE4.alloc _).most hM4 hge; have hR5 := (hR4.alloc _).most hM4 hgr; have b5 : Below w.heap.size w w4 := (b4.alloc hsz _).trans (hM4.below (Nat.le_trans hsz (by simp)) hsz)))
      | (refine wpList_load_row rfl 68 _ rfl _ rfl 68 _ (0, 0) _ (hE5) Try.underlying68 rfl (row26 (d17 _ _ (hl2.out))) ?_)
      | (go_at_call 113; ((with_reducible refine (hmv2.out p q w3.heap.size hgp hgq _ hS4 hG4).mono ?_); rintro e w5 ⟨rfl, hS5, hG5, hM5⟩; have hR6 := hR5.most hM5 hgr; have kp5 := hS5.1.cell 0; have kq5 := hS5.2.cell 0; have b6 : Below w.heap.size w w5 := b5.trans (hM5.below b5.size hsz)))
      | (go_at_call 110; ((with_reducible refine (dom_any _ R hml2.out (n + m) _ hG5).mono ?_); rintro e w6 ⟨rfl, hB6⟩))
      | (refine wpList_store_own rfl 68 _ _ rfl _ _ rfl rfl 68 _ (hR6.below hB6 hR6.lt) (row26 (d17 _ _ (hml2.out))) (z_eq (d17 _ _ hml2.out)) (dcells_one _ _) ?_; intro w7 hO7 hN7))
    refine bodyPost_ret (v := .tuple #[.agg (dcells (n + m) R), .int .i64 0]) (results_row_tmp rfl _ _ _ _ _ (0, 0) _ rfl (hO7) Try.underlying68 rfl (row26 (d17 _ _ (hml2.out))) _ rfl) rfl (⟨rfl, (b6.trans (hB6.mono b6.size)).trans (hN7.below.mono (by omega))⟩)
end Go.Proofs.Ytpmcngmphkegnaa
