/- Which partitions are planar: the program's reading. -/
import Derived.Test.YthjgcakpimbcbaaThp
import Derived.WalkMore
import Derived.BigQuiet
namespace Go.Proofs.Ythjgcakpimbcbaa
open Go.RowKit
set_option linter.unusedVariables false
/-- Four places in order, of which the first and third are in one part, the others in another one. -/
def Crs (a : List Int) (m : Nat) : Prop := ∃ i j k l, i < j ∧ j < k ∧ k < l ∧ l < m ∧ a.getD i 0 = a.getD k 0 ∧ a.getD j 0 = a.getD l 0 ∧ a.getD i 0 ≠ a.getD j 0
/-- None of which the third is before c. -/
def NcC (a : List Int) (m c : Nat) : Prop := ∀ i j k l, i < j → j < k → k < l → l < m → k < c → a.getD i 0 = a.getD k 0 → a.getD j 0 = a.getD l 0 → a.getD i 0 = a.getD j 0
/-- From t on, up to c, no place has the part of c, nor one that comes behind c. -/
def NcB (a : List Int) (m c t : Nat) : Prop := ∀ b, t ≤ b → b < c → a.getD b 0 ≠ a.getD c 0 ∧ ∀ l, c < l → l < m → a.getD l 0 ≠ a.getD b 0
theorem nc_zero (a : List Int) (m : Nat) : NcC a m 0 := fun i j k l _ _ _ _ h => absurd h (Nat.not_lt_zero _)
theorem nc_end (a : List Int) (m : Nat) (h : NcC a m m) : ¬ Crs a m := by
  rintro ⟨i, j, k, l, h1, h2, h3, h4, e1, e2, e3⟩
  exact e3 (h i j k l h1 h2 h3 h4 (by omega) e1 e2)
theorem nc_skip (a : List Int) (m c : Nat) (h : NcC a m c) (hn : ∀ i, i < c → a.getD i 0 ≠ a.getD c 0) : NcC a m (c + 1) := by
  intro i j k l h1 h2 h3 h4 hk e1 e2
  by_cases e : k = c
  · subst e; exact absurd e1 (hn i (by omega))
  · exact h i j k l h1 h2 h3 h4 (by omega) e1 e2
theorem nb_zero (a : List Int) (m c : Nat) : NcB a m c c := fun b h1 h2 => absurd h1 (by omega)
theorem nb_step (a : List Int) (m c t : Nat) (h : NcB a m c (t + 1)) (h1 : a.getD t 0 ≠ a.getD c 0) (h2 : ∀ l, c < l → l < m → a.getD l 0 ≠ a.getD t 0) : NcB a m c t := by
  intro b hb hc
  by_cases e : b = t
  · subst e; exact ⟨h1, h2⟩
  · exact h b (by omega) hc
theorem nc_cont (a : List Int) (m c t : Nat) (hC : NcC a m c) (hB : NcB a m c (t + 1)) (ht : t < c) (he : a.getD t 0 = a.getD c 0) : NcC a m (c + 1) := by
  intro i j k l h1 h2 h3 h4 hk e1 e2
  by_cases e : k = c
  · subst e
    by_cases hi : t < i
    · exact absurd e1 (hB i (by omega) (by omega)).1
    · by_cases hj : t < j
      · exact absurd e2.symm ((hB j (by omega) h2).2 l h3 h4)
      · by_cases ejt : j = t
        · subst ejt; rw [e1, he]
        · exact hC i j t l h1 (by omega) (by omega) h4 ht (by rw [e1, he]) e2
  · exact hC i j k l h1 h2 h3 h4 (by omega) e1 e2
theorem nc_hit (a : List Int) (m c t i0 l : Nat) (hB : NcB a m c (t + 1)) (ht : t < c) (hn : a.getD t 0 ≠ a.getD c 0) (hi : i0 < c) (he : a.getD i0 0 = a.getD c 0) (hl : c < l) (hlm : l < m) (hle : a.getD l 0 = a.getD t 0) : Crs a m := by
  have : i0 < t := by
    by_cases h : t < i0
    · exact absurd he (hB i0 (by omega) hi).1
    · by_cases e : i0 = t
      · subst e; exact absurd he hn
      · omega
  exact ⟨i0, t, c, l, this, ht, hl, hlm, he, hle.symm, fun e => hn (by rw [← e, he])⟩
theorem nc_none (a : List Int) (m c i0 : Nat) (hB : NcB a m c 0) (hi : i0 < c) (he : a.getD i0 0 = a.getD c 0) : False := (hB i0 (by omega) hi).1 he
theorem getD_drop (xs : List Int) (c j : Nat) : (xs.drop c).getD j 0 = xs.getD (c + j) 0 := by simp [List.getD_eq_getElem?_getD]
/-- Is the part of c before it? -/
theorem mem_before (a : List Int) (m c : Nat) (hl : a.length = m) (hc : c < m) : (fi (a.take c) (a.getD c 0) < c → ∃ i, i < c ∧ a.getD i 0 = a.getD c 0) ∧ (¬ fi (a.take c) (a.getD c 0) < c → ∀ i, i < c → a.getD i 0 ≠ a.getD c 0) := by
  have hlen : (a.take c).length = c := by simp; omega
  refine ⟨fun h => ⟨_, h, ?_⟩, fun h i hi e => ?_⟩
  · have := fi_at (a.take c) (a.getD c 0) (by rw [hlen]; exact h)
    rw [getD_take _ _ _ h] at this
    exact this
  · have := fi_before (a.take c) (a.getD c 0) i (by omega)
    rw [getD_take _ _ _ hi] at this
    exact this e
theorem mem_behind (a : List Int) (m c t : Nat) (hl : a.length = m) (hc : c < m) : (fi (a.drop (c + 1)) (a.getD t 0) < m - (c + 1) → ∃ l, c < l ∧ l < m ∧ a.getD l 0 = a.getD t 0) ∧ (¬ fi (a.drop (c + 1)) (a.getD t 0) < m - (c + 1) → ∀ l, c < l → l < m → a.getD l 0 ≠ a.getD t 0) := by
  have hlen : (a.drop (c + 1)).length = m - (c + 1) := by simp; omega
  refine ⟨fun h => ?_, fun h l h1 h2 e => ?_⟩
  · have := fi_at (a.drop (c + 1)) (a.getD t 0) (by rw [hlen]; exact h)
    rw [getD_drop] at this
    exact ⟨_, by omega, by omega, this⟩
  · have := fi_before (a.drop (c + 1)) (a.getD t 0) (l - (c + 1)) (by omega)
    rw [getD_drop, show c + 1 + (l - (c + 1)) = l by omega] at this
    exact this e

set_option maxRecDepth 100000 in
theorem conB_any (b o c n : Nat) (xs : List Int) (x : Int) (w : World) (hn : xs.length = n) (hl : n ≤ 1000000) (hR : Rdf (Value.int .u8) w b o xs) :
    Calls Try.prog 38 #[.slice (some ⟨b, o, none⟩) n c, .int .u8 x] w fun e w' => e = .returned (.bool (decide (fi xs x < n))) ∧ w = w' := by
  have h := Lib.hid (idxB_any b o c xs x w (by omega) hR)
  rw [hn] at h
  by_cases hc : fi xs x < n
  · rw [if_pos hc] at h
    have e : decide (fi xs x < n) = true := by simp [hc]
    rw [e]
    generalize fi xs x = f at *
    clear hR hn e
    go_enter Try.func38, Try.ntmps38
    go_wp2_with (first
      | (go_at_call 47; ((with_reducible refine (h.out).mono ?_); rintro e w1 ⟨rfl, rfl⟩)))
    go_ret
    exact ⟨rfl, rfl⟩
  · rw [if_neg hc] at h
    have e : decide (fi xs x < n) = false := by simp [hc]
    rw [e]
    clear hR hn e
    go_enter Try.func38, Try.ntmps38
    go_wp2_with (first
      | (go_at_call 47; ((with_reducible refine (h.out).mono ?_); rintro e w1 ⟨rfl, rfl⟩)))
    go_ret
    exact ⟨rfl, rfl⟩
theorem slTo (g c m : Nat) (h : c ≤ m) (h8 : m ≤ 8) : ∀ w : World, (Instr.slice 47 (.slice (some ⟨g, 0, none⟩) m m) none (some (.int .i64 (c : Int))) none).run Try.prog w = .ok (.slice (some ⟨g, 0, none⟩) c m) w := by
  have hm : m = 0 ∨ m = 1 ∨ m = 2 ∨ m = 3 ∨ m = 4 ∨ m = 5 ∨ m = 6 ∨ m = 7 ∨ m = 8 := by omega
  have hc : c = 0 ∨ c = 1 ∨ c = 2 ∨ c = 3 ∨ c = 4 ∨ c = 5 ∨ c = 6 ∨ c = 7 ∨ c = 8 := by omega
  intro w
  rcases hm with rfl | rfl | rfl | rfl | rfl | rfl | rfl | rfl | rfl <;> rcases hc with rfl | rfl | rfl | rfl | rfl | rfl | rfl | rfl | rfl <;> first | exact absurd h (by decide) | kernel_rfl
/-- Where a slice from behind c begins: an empty one stays where it was. -/
def off (c m : Nat) : Nat := if c + 1 = m then 0 else c + 1
theorem slFrom (g c m : Nat) (h : c < m) (h8 : m ≤ 8) : ∀ w : World, (Instr.slice 47 (.slice (some ⟨g, 0, none⟩) m m) (some (.int .i64 ((c : Int) + 1))) none none).run Try.prog w = .ok (.slice (some ⟨g, off c m, none⟩) (m - (c + 1)) (m - (c + 1))) w := by
  have hm : m = 0 ∨ m = 1 ∨ m = 2 ∨ m = 3 ∨ m = 4 ∨ m = 5 ∨ m = 6 ∨ m = 7 ∨ m = 8 := by omega
  have hc : c = 0 ∨ c = 1 ∨ c = 2 ∨ c = 3 ∨ c = 4 ∨ c = 5 ∨ c = 6 ∨ c = 7 := by omega
  intro w
  rcases hm with rfl | rfl | rfl | rfl | rfl | rfl | rfl | rfl | rfl <;> rcases hc with rfl | rfl | rfl | rfl | rfl | rfl | rfl | rfl <;> first | exact absurd h (by decide) | kernel_rfl
theorem Rdf.take {w : World} {b : Nat} {xs : List Int} (h : Rdf (Value.int .u8) w b 0 xs) (c : Nat) : Rdf (Value.int .u8) w b 0 (xs.take c) := by
  intro j hj
  simp only [List.length_take] at hj
  rw [h j (by omega), getD_take _ _ _ (by omega)]
theorem Rdf.behind {w : World} {b : Nat} {xs : List Int} (h : Rdf (Value.int .u8) w b 0 xs) (c m : Nat) (hl : xs.length = m) : Rdf (Value.int .u8) w b (off c m) (xs.drop (c + 1)) := by
  intro j hj
  simp only [List.length_drop] at hj
  have : off c m = c + 1 := by unfold off; rw [if_neg (by omega)]
  rw [this, getD_drop, ← h (c + 1 + j) (by omega), Nat.zero_add]
/-- The cells of a shape. -/
def shc (ga gp m P : Nat) : Array Value := #[.slice (some ⟨ga, 0, none⟩) m m, .slice (some ⟨gp, 0, none⟩) P P]
theorem noGoto_ret {Q : Exit → Act → World → Prop} {a : Act} {w : World} (h : Q .ret a w) : Exit.noGoto Q .ret a w := h
set_option maxRecDepth 100000 in
set_option maxHeartbeats 4000000 in
theorem planI_any (ga gp P m : Nat) (a : List Int) (w : World) (hl : a.length = m) (h8 : m ≤ 8) (hlt : ga < w.heap.size) (hR : Rdf (Value.int .u8) w ga 0 a) :
    Calls Try.prog 28 #[.agg (shc ga gp m P)] w fun e w' => ∃ r : Bool, e = .returned (.bool r) ∧ (r = true ↔ ¬ Crs a m) ∧ Below w.heap.size w w' := by
  have hL := Lib.hid hl
  have hz := Lib.hid (nc_zero a m)
  have hend := Lib.hid (nc_end a m)
  have hB1 : Below w.heap.size w (w.alloc (.cells (shc ga gp m P) 50)) := (Below.refl _ _).alloc (Nat.le_refl _) _
  have HR := Lib.hid (fun w' (h : Below w.heap.size w w') => hR.below hlt h hlt)
  have HB := Lib.hid hB1
  have HO := Lib.hid (Own.new w (shc ga gp m P) 50)
  have hsh : (shc ga gp m P)[0]? = some (.slice (some ⟨ga, 0, none⟩) m m) := rfl
  have hmb := Lib.hid (fun c hc => mem_before a m c hl hc)
  have hme := Lib.hid (fun c t hc => mem_behind a m c t hl hc)
  have c0 := HO.out.cell 0
  rw [hsh] at c0
  clear hl hlt hR hB1
  go_enter Try.func28, Try.ntmps28
  go_wp2
  go_step3
  go_wp2
  go_step3
  go_wp2
  clear c0
  go_loopw [9] (fun i wr => ∃ c : Nat, c ≤ m ∧ i = .int .i64 c ∧ Hid (NcC a m c) ∧ Own wr w.heap.size (shc ga gp m P) 50 ∧ Below w.heap.size w wr) (fun i _ => ((m : Int) - intOf i).toNat)
  case atStart => exact ⟨0, by omega, rfl, hz, HO.out, HB.out⟩
  case round =>
    clear HO HB
    obtain ⟨c, hc, rfl, hC, hO, hB⟩ := hrel
    by_cases hlt : c < m
    · have i1 : (c : Int) < (m : Int) := by omega
      have hRr := Lib.hid (HR.out wr hB)
      have c0 := hO.cell 0
      rw [hsh] at c0
      have c1 := hRr.out c (by rw [hL.out]; exact hlt)
      rw [Nat.zero_add] at c1
      have hst := slTo ga c m hc h8
      have hcon := Lib.hid (conB_any ga 0 m c (a.take c) (a.getD c 0) wr (by rw [List.length_take, hL.out]; omega) (by omega) (hRr.out.take c))
      by_cases hm : fi (a.take c) (a.getD c 0) < c
      · have hi0 := Lib.hid ((hmb.out c hlt).1 hm)
        rw [decide_eq_true hm] at hcon
        obtain ⟨x, hx⟩ : ∃ x, a.getD c 0 = x := ⟨_, rfl⟩
        have HX := Lib.hid hx
        rw [hx] at c1 hcon
        clear hm hx
        have HO := Lib.hid hO
        have HB := Lib.hid hB
        clear hO hB hRr
        go_wp2_with (first
          | (go_at_call 38; ((with_reducible refine (hcon.out).mono ?_); rintro e w1 ⟨rfl, rfl⟩)))
        clear c0 c1 hst hcon
        go_loopw [5] (fun v wr => ∃ t : Nat, t ≤ c ∧ v = .int .i64 ((t : Int) - 1) ∧ Hid (NcB a m c t) ∧ Own wr w.heap.size (shc ga gp m P) 50 ∧ Below w.heap.size w wr) (fun v _ => (intOf v + 1).toNat)
        case atStart => exact ⟨c, by omega, rfl, Lib.hid (nb_zero a m c), HO.out, HB.out⟩
        case round =>
          clear HO HB
          obtain ⟨t, ht, rfl, hN, hO, hB⟩ := hrel
          cases t with
          | zero => exact absurd hi0.out (fun ⟨i0, h1, h2⟩ => nc_none a m c i0 hN.out h1 h2)
          | succ s =>
            rw [show ((s + 1 : Nat) : Int) - 1 = (s : Int) by omega]
            have j1 : (s : Int) < (m : Int) := by omega
            have j0 : (0 : Int) ≤ (s : Int) := by omega
            have hRr := Lib.hid (HR.out wr hB)
            have c0 := hO.cell 0
            rw [hsh] at c0
            have c1 := hRr.out s (by rw [hL.out]; omega)
            rw [Nat.zero_add] at c1
            by_cases he : a.getD s 0 = a.getD c 0
            · have hC2 := Lib.hid (nc_cont a m c s hC.out hN.out (by omega) he)
              rw [he, HX.out] at c1
              have HO := Lib.hid hO
              have HB := Lib.hid hB
              clear hO hB hRr he hN hC
              go_wp2
              go_roundw
              case rel => exact ⟨c + 1, by omega, by go_num, hC2, HO.out, HB.out⟩
              case measure => simp [intOf]; omega
            · have hst := slFrom ga c m hlt h8
              have hcn := Lib.hid (fun n => conB_any ga (off c m) (m - (c + 1)) (m - (c + 1)) (a.drop (c + 1)) (a.getD s 0) (wr.drewN n) (by rw [List.length_drop, hL.out]) (by omega) ((HR.out _ (Below.drewN hB n)).behind c m hL.out))
              have hne := Lib.hid he
              rw [HX.out] at he
              by_cases hm2 : fi (a.drop (c + 1)) (a.getD s 0) < m - (c + 1)
              · have hcr := Lib.hid (show Crs a m from (by
                  obtain ⟨l, l1, l2, l3⟩ := (hme.out c s hlt).1 hm2
                  obtain ⟨i0, i1, i2⟩ := hi0.out
                  exact nc_hit a m c s i0 l hN.out (by omega) hne.out i1 i2 l1 l2 l3))
                rw [decide_eq_true hm2] at hcn
                clear hm2 hN hC hne hRr
                generalize a.getD s 0 = y at *
                have HO := Lib.hid hO
                have HB := Lib.hid hB
                clear hO hB
                have hyx : (y == x) = false := by simpa using he
                clear he
                go_wp2
                go_quiet (first | (go_at_call 38; refine Calls.quiet_of_same ((hcn.out _).mono (fun e w' h => ⟨h.1, h.2.symm⟩))))
                go_wp2
                refine noGoto_ret ?_
                go_ret
                exact ⟨false, rfl, by simpa using hcr.out, Below.drewN HB.out _⟩
              · have hN2 := Lib.hid (nb_step a m c s hN.out hne.out ((hme.out c s hlt).2 hm2))
                rw [decide_eq_false hm2] at hcn
                clear hm2 hN hne hRr
                generalize a.getD s 0 = y at *
                have HO := Lib.hid hO
                have HB := Lib.hid hB
                clear hO hB
                have hyx : (y == x) = false := by simpa using he
                clear he
                go_wp2
                go_quiet (first | (go_at_call 38; refine Calls.quiet_of_same ((hcn.out _).mono (fun e w' h => ⟨h.1, h.2.symm⟩))))
                go_wp2
                go_roundw
                case rel => exact ⟨s, by omega, by go_num, hN2, HO.out.drewN _, Below.drewN HB.out _⟩
                case measure => simp [intOf] <;> omega
      · have hno := Lib.hid ((hmb.out c hlt).2 hm)
        have hC2 := Lib.hid (nc_skip a m c hC.out hno.out)
        rw [decide_eq_false hm] at hcon
        clear hm hno hC
        generalize a.getD c 0 = x at *
        have HO := Lib.hid hO
        have HB := Lib.hid hB
        clear hO hB
        go_wp2_with (first
          | (go_at_call 38; ((with_reducible refine (hcon.out).mono ?_); rintro e w1 ⟨rfl, rfl⟩)))
        go_roundw
        case rel => exact ⟨c + 1, by omega, by go_num, hC2, HO.out, HB.out⟩
        case measure => simp [intOf]; omega
    · obtain rfl : c = m := by omega
      go_wp2
      refine noGoto_ret ?_
      go_ret
      exact ⟨true, rfl, by simpa using hend.out hC.out, hB⟩
end Go.Proofs.Ythjgcakpimbcbaa
