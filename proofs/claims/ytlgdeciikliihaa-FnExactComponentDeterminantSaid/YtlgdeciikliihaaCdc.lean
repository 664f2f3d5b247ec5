/- newTable: the rows of a table lie in one block. The table of the numbers of components: the program's. Plain mathematics: how many pairs have so many components. The table of the numbers of components: the model's, each row in a block of its own. ComponentDeterminant: the program. ComponentDeterminant: the model, and the law. -/
import Derived.Test.YtlgdeciikliihaaRss
import Derived.Test.YtlgdeciikliihaaOn
import Derived.Test.YtlgdeciikliihaaCdb
namespace Go.Proofs.Ytlgdeciikliihaa
open Go.RowKit
set_option linter.unusedVariables false
set_option linter.unusedSimpArgs false
theorem makeRR (n : Nat) (hn : n ≤ 1000) : ∀ w : World, (Instr.makeSlice 49 (.int .i64 n) (.int .i64 n)).run Try.prog w = .ok (.slice (some ⟨w.heap.size, 0, none⟩) n n) (w.alloc (.cells (madeCells #[.slice none 0 0] n) 28)) := by
  intro w
  obtain ⟨i0, hi0, hz0, hz1, hz2⟩ := info_parts infoR
  have := run_make w 49 28 i0 (.slice none 0 0) Try.underlying49 hi0 hz0 .i64 .i64 (n : Int) (n : Int) (by omega) (by omega) (by rw [hz2]; omega) (by omega)
  rw [this, hz1]
  simp only [Int.toNat_natCast, Nat.mul_one]
  rfl
/-- The rows of a table of n times n numbers in the block g. -/
def Rof (cs : Array Value) (g n k : Nat) : Prop := cs.size = n ∧ ∀ i, i < k → cs[i]? = some (.slice (some ⟨g, i * n, none⟩) n n)
set_option maxRecDepth 100000 in
set_option maxHeartbeats 1000000 in
theorem nwt_ok (n : Nat) (h1 : 1 ≤ n) (h2 : n ≤ 200) (w : World) :
    Calls Try.prog 49 #[.int .i64 n, .int .i64 n] w fun e w' => ∃ cs, e = .returned (.slice (some ⟨w.heap.size + 1, 0, none⟩) n n) ∧ Own w' w.heap.size (icells (List.replicate (n * n) 0)) 2 ∧ Own w' (w.heap.size + 1) cs 28 ∧ Rof cs w.heap.size n n ∧ Below w.heap.size w w' := by
  have hm := Nat.mul_le_mul h2 h2
  obtain ⟨P, hP⟩ : ∃ P, n * n = P := ⟨_, rfl⟩
  have hPP : (n : Int) * (n : Int) = (P : Int) := by rw [← hP]; simp
  rw [hP] at hm ⊢
  have hmk := makeI P (by omega)
  have hmr := makeRR n (by omega)
  have HP := Lib.hid hP
  clear hP
  go_enter Try.func49, Try.ntmps49
  go_wp2
  clear hmk hmr
  obtain ⟨cs0, hcs0⟩ : ∃ cs, madeCells #[Value.slice none 0 0] n = cs := ⟨_, rfl⟩
  have hsz0 := madeAA_size n
  rw [hcs0] at hsz0 ⊢
  clear hcs0
  go_loopw [16] (fun i wr => ∃ (k : Nat) (cs : Array Value), k ≤ n ∧ i = .int .i64 k ∧ Own wr w.heap.size (icells (List.replicate P 0)) 2 ∧ Own wr (w.heap.size + 1) cs 28 ∧ Rof cs w.heap.size n k ∧ Below w.heap.size w wr) (fun i _ => ((n : Int) - intOf i).toNat)
  case atStart => exact ⟨0, cs0, by omega, rfl, (Own.new _ _ _).alloc _, Own.at _ _ _ (by simp), ⟨hsz0, fun i hi => by omega⟩, ((Below.refl _ _).alloc (Nat.le_refl _) _).alloc (by simp) _⟩
  case round =>
    obtain ⟨k, cs, hk, rfl, hO1, hO2, hRo, hB⟩ := hrel
    by_cases hlt : k < n
    · have hkn : (k + 1) * n ≤ P := by rw [← HP.out]; exact Nat.mul_le_mul_right n (by omega)
      have hsm : (k + 1) * n = k * n + n := Nat.succ_mul k n
      obtain ⟨A, hA⟩ : ∃ A, k * n = A := ⟨_, rfl⟩
      have hA1 : (k : Int) * (n : Int) = (A : Int) := by rw [← hA]; simp
      have hA2 : ((k : Int) + 1) * (n : Int) = (A : Int) + (n : Int) := by rw [← hA1, Int.add_mul, Int.one_mul]
      rw [hsm, hA] at hkn
      clear hsm
      have HA := Lib.hid hA
      clear hA
      have i1 : (k : Int) < (n : Int) := by omega
      have hsz := hRo.1
      have f2 := hO2.free k
      have c2 : wr.cell? ⟨w.heap.size + 1, k, none⟩ = some (cs[k]'(by omega)) := by rw [hO2.cell]; exact Array.getElem?_eq_getElem (by omega)
      go_wp2
      go_roundw
      case rel =>
        refine ⟨k + 1, _, by omega, by go_num, hO1.other (by show w.heap.size + 1 ≠ w.heap.size; omega) _, hO2.set k _, ⟨by simp [hsz], fun i hi => ?_⟩, hB.setCell (p := ⟨w.heap.size + 1, k, none⟩) (by show w.heap.size ≤ w.heap.size + 1; omega) _⟩
        by_cases e : i = k
        · subst e; rw [HA.out]; simp [hsz, hlt]
        · rw [Array.getElem?_setIfInBounds_ne (by omega)]; exact hRo.2 i (by omega)
      case measure => simp [intOf]; omega
    · have e : k = n := by omega
      subst e
      go_wp2
      go_ret
      exact ⟨cs, rfl, hO1, hO2, hRo, hB⟩
end Go.Proofs.Ytlgdeciikliihaa
namespace Go.Proofs.Ytlgdeciikliihaa
open Go.RowKit
set_option linter.unusedVariables false
set_option linter.unusedSimpArgs false
theorem idx_inj {n i j k q : Nat} (hj : j < n) (hq : q < n) (h : i * n + j = k * n + q) : i = k ∧ j = q := by
  rcases Nat.lt_trichotomy i k with h1 | h1 | h1
  · have := Nat.mul_le_mul_right n (show i + 1 ≤ k by omega)
    rw [Nat.succ_mul] at this; omega
  · subst h1; exact ⟨rfl, by omega⟩
  · have := Nat.mul_le_mul_right n (show k + 1 ≤ i by omega)
    rw [Nat.succ_mul] at this; omega
/-- The table is filled up to the place q of the row k. -/
def Fil (m : Nat) (LL : List (List UInt8)) (n : Nat) (ns : List Int) (k q : Nat) : Prop := ∀ i j, i < n → j < n → (i < k ∨ (i = k ∧ j < q)) → ns.getD (i * n + j) 0 = (tbN m LL i j : Int)
theorem Fil.row {m n k : Nat} {LL : List (List UInt8)} {ns : List Int} (h : Fil m LL n ns k n) : Fil m LL n ns (k + 1) 0 := fun i j hi hj hh => h i j hi hj (by omega)
theorem Fil.set {m n k q : Nat} {LL : List (List UInt8)} {ns : List Int} (h : Fil m LL n ns k q) (hk : k < n) (hq : q < n) (hl : k * n + q < ns.length) : Fil m LL n (ns.set (k * n + q) (tbN m LL k q : Int)) k (q + 1) := fun i j hi hj hh => by
  by_cases e : i * n + j = k * n + q
  · obtain ⟨rfl, rfl⟩ := idx_inj hj hq e
    rw [List.getD_eq_getElem?_getD]; simp [hl]
  · have hne : ¬ (i = k ∧ j = q) := fun h => e (by rw [h.1, h.2])
    rw [List.getD_eq_getElem?_getD, List.getElem?_set_ne (by omega), ← List.getD_eq_getElem?_getD]
    exact h i j hi hj (by omega)
set_option maxRecDepth 100000 in
set_option maxHeartbeats 4000000 in
theorem tbI_ok (m : Nat) (h1 : 1 ≤ m) (h6 : m ≤ 6) (n : Nat) (hn : (allH (2 * m) 0).length = n) (h0 : 1 ≤ n) (w : World) :
    Calls Try.prog 24 #[.int .i64 m] w fun e w' => ∃ g1 g2 cs ns, w.heap.size ≤ g1 ∧ w.heap.size ≤ g2 ∧ e = .returned (.slice (some ⟨g2, 0, none⟩) n n) ∧ Own w' g1 (icells ns) 2 ∧ Own w' g2 cs 28 ∧ Rof cs g1 n n ∧ ns.length = n * n ∧ Fil m (allH (2 * m) 0) n ns n 0 ∧ Below w.heap.size w w' := by
  have hlen := allH_len12 m h1 h6
  rw [hn] at hlen
  have hL := Lib.hid (fun w => lia_ok m h1 h6 n hn w)
  have hW := Lib.hid (fun w => nwt_ok n h0 (by omega) w)
  have hS := Lib.hid (fun k hk => all_sys m h1 h6 k hk)
  have HN := Lib.hid hn
  generalize allH (2 * m) 0 = LL at *
  clear hn
  go_enter Try.func24, Try.ntmps24
  go_wp2_with (first
    | (go_at_call 48; ((with_reducible refine (hL.out _).mono ?_); rintro e w1 ⟨gl, csl, hgl, rfl, hOl, hAL, hB1⟩))
    | (go_at_call 49; ((with_reducible refine (hW.out _).mono ?_); rintro e w2 ⟨cs, rfl, hO1, hO2, hRo, hB2⟩)))
  have hs1 := hB1.size
  have HR := Lib.hid hRo
  have HAL := Lib.hid hAL
  have HOl := Lib.hid hOl
  have hgl2 := hOl.lt
  clear hRo hAL hOl
  go_loopw [18] (fun i wr => ∃ (k : Nat) (ns : List Int), k ≤ n ∧ i = .int .i64 k ∧ Hid (ns.length = n * n) ∧ Hid (Fil m LL n ns k 0) ∧ Own wr w1.heap.size (icells ns) 2 ∧ Own wr (w1.heap.size + 1) cs 28 ∧ Below w1.heap.size w1 wr) (fun i _ => ((n : Int) - intOf i).toNat)
  case atStart => exact ⟨0, _, by omega, rfl, Lib.hid (by simp), Lib.hid (fun i j hi hj hh => by omega), hO1, hO2, hB2⟩
  case round =>
    clear hO1 hO2 hB2
    obtain ⟨k, ns, hk, rfl, hnl, hF, hO1, hO2, hB⟩ := hrel
    by_cases hlt : k < n
    · obtain ⟨p1, p2⟩ := hS.out k (by rw [HN.out]; exact hlt)
      have hSk := Lib.hid (sysO_sys p1 p2)
      obtain ⟨ga, a1, a2, a3⟩ := HAL.out k hlt
      have c1 : wr.cell? ⟨gl, k, none⟩ = some (.slice (some ⟨ga, 0, none⟩) (2 * m) (2 * m)) := by rw [(HOl.out.below hB hgl2).cell]; exact a2
      have hc3 := Lib.hid (HR.out.2 k hlt)
      have i1 : (k : Int) < (n : Int) := by omega
      have hkn := Nat.mul_le_mul_right n (show k + 1 ≤ n by omega)
      rw [Nat.succ_mul] at hkn
      obtain ⟨w2, rfl⟩ : ∃ x, x = wr := ⟨_, rfl⟩
      have HA3 := Lib.hid a3
      have hga := Own.lt a3
      clear a1 a2 a3 p1 p2
      go_wp2
      go_loopw [25] (fun j wr => ∃ (q : Nat) (ns : List Int), q ≤ n ∧ j = .int .i64 q ∧ Hid (ns.length = n * n) ∧ Hid (Fil m LL n ns k q) ∧ Own wr w1.heap.size (icells ns) 2 ∧ Own wr (w1.heap.size + 1) cs 28 ∧ Below w1.heap.size w1 wr) (fun j _ => ((n : Int) - intOf j).toNat)
      case atStart => exact ⟨0, ns, by omega, rfl, hnl, hF, hO1, hO2, hB⟩
      case round =>
        clear hnl hF hO1 hO2 hB c1
        obtain ⟨q, ns, hq, rfl, hnl, hF, hO1, hO2, hB⟩ := hrel
        by_cases hlt2 : q < n
        · obtain ⟨p1, p2⟩ := hS.out q (by rw [HN.out]; exact hlt2)
          have hSq := sysO_sys p1 p2
          obtain ⟨gb, a1, a2, a3⟩ := HAL.out q hlt2
          have c2 : wr.cell? ⟨gl, q, none⟩ = some (.slice (some ⟨gb, 0, none⟩) (2 * m) (2 * m)) := by rw [(HOl.out.below hB hgl2).cell]; exact a2
          have i2 : (q : Int) < (n : Int) := by omega
          have hC := Lib.hid (show ∀ w8, Below w1.heap.size w1 w8 → Calls Try.prog 50 #[.slice (some ⟨ga, 0, none⟩) (2 * m) (2 * m), .slice (some ⟨gb, 0, none⟩) (2 * m) (2 * m)] w8 fun e w' => e = .returned (.int .i64 (tbN m LL k q : Nat)) ∧ Below w8.heap.size w8 w' from fun w8 hb => ctc_any (2 * m) _ _ hSk.out hSq ga gb w8 (Own.below HA3.out hb hga) (Own.below a3 hb (Own.lt a3)))
          have hfs := Lib.hid (Fil.set hF.out hlt hlt2 (by rw [hnl.out]; omega))
          have hsl := Lib.hid (show (ns.set (k * n + q) (tbN m LL k q : Int)).length = n * n by rw [List.length_set]; exact hnl.out)
          have hin := Lib.hid (show k * n + q < ns.length by rw [hnl.out]; omega)
          obtain ⟨x, hx⟩ : ∃ x, tbN m LL k q = x := ⟨_, rfl⟩
          rw [hx] at hC hfs hsl
          obtain ⟨A, hA⟩ : ∃ A, k * n = A := ⟨_, rfl⟩
          have hc3' := hc3.out
          rw [hA] at hfs hsl hin hc3'
          have hc4 := Lib.hid hc3'
          clear hc3' hx hA a1 a2 a3 p1 p2 hSq hnl hF
          go_wp2
          refine wp_region_on (fun w' => Own w' w1.heap.size (icells ns) 2 ∧ Own w' (w1.heap.size + 1) cs 28 ∧ Below w1.heap.size w1 w') [0, 1, 2, 3, 4, 5, 6] [7] 8 (by kernel_rfl) (by kernel_rfl) ⟨hO1.drewN 1, hO2.drewN 1, Below.drewN hB 1⟩ ?_
          simp only [List.map_cons, List.map_nil, opN_zero, opN_succ, List.drop_succ_cons, List.drop_zero]
          clear hO1 hO2 hB c2
          (apply wpOn_step; · (intro wd hS K hK; have d3 := hS.2.1.cell k; rw [hc4.out] at d3; clear hS; go_simp; exact hK))
          (apply wpOn_step; · (intro wd hS K hK; have d3 := hS.2.1.cell k; rw [hc4.out] at d3; clear hS; go_simp; exact hK))
          (apply wpOn_step; · (intro wd hS K hK; have d3 := hS.2.1.cell k; rw [hc4.out] at d3; clear hS; go_simp; exact hK))
          (apply wpOn_step; · (intro wd hS K hK; have d3 := hS.2.1.cell k; rw [hc4.out] at d3; clear hS; go_simp; exact hK))
          (apply wpOn_step; · (intro wd hS K hK; have d3 := hS.2.1.cell k; rw [hc4.out] at d3; clear hS; go_simp; exact hK))
          (apply wpOn_step; · (intro wd hS K hK; have d3 := hS.2.1.cell k; rw [hc4.out] at d3; clear hS; go_simp; exact hK))
          (apply wpOn_step; · (intro wd hS K hK; have d3 := hS.2.1.cell k; rw [hc4.out] at d3; clear hS; go_simp; exact hK))
          refine wpOn_nil ?_
          rintro w8 ⟨hO1, hO2, hB⟩
          refine wpMid_step (fun K hK => ?_)
          go_wp2_with (first
            | (go_at_call 50; ((with_reducible refine (hC.out w8 hB).mono ?_); rintro e w9 ⟨rfl, hB9⟩)))
          refine hK _ _ ⟨hO1.below hB9 hO1.lt, hO2.below hB9 hO2.lt, hB.trans (hB9.mono hB.size)⟩ ?_
          clear hK K
          refine wpMid_nil ?_
          have hO3 := hO1.below hB9 hO1.lt
          have d3 := (hO2.below hB9 hO2.lt).cell k
          rw [hc4.out] at d3
          have c5 := hO3.cell (A + q)
          rw [icells_get _ _ hin.out] at c5
          have f5 := hO3.free (A + q)
          have hO4 := hO3.set (A + q) (.int .i64 (x : Nat))
          rw [icells_set] at hO4
          have K1 := Lib.hid hO4
          have K2 := Lib.hid ((hO2.below hB9 hO2.lt).other (a := ⟨w1.heap.size, A + q, none⟩) (by show w1.heap.size ≠ w1.heap.size + 1; omega) (.int .i64 (x : Nat)))
          have K3 := Lib.hid ((hB.trans (hB9.mono hB.size)).setCell (p := ⟨w1.heap.size, A + q, none⟩) (Nat.le_refl _) (.int .i64 (x : Nat)))
          clear hO4 hO3 hO1 hO2 hB hB9
          go_wp2
          go_roundw
          case rel => exact ⟨q + 1, _, by omega, by go_num, hsl, hfs, K1.out, K2.out, K3.out⟩
          case measure => simp [intOf]; omega
        · have e : q = n := by omega
          subst e
          have hF2 := Lib.hid hF.out.row
          clear hF
          go_wp2
          go_roundw
          case rel => exact ⟨k + 1, ns, by omega, by go_num, hnl, hF2, hO1, hO2, hB⟩
          case measure => simp [intOf]; omega
    · have e : k = n := by omega
      subst e
      go_wp2
      go_ret
      exact ⟨_, _, cs, ns, hs1, by omega, rfl, hO1, hO2, HR.out, hnl.out, hF.out, hB1.trans (hB.mono hs1)⟩
end Go.Proofs.Ytlgdeciikliihaa
namespace Go.Proofs.Ytlgdeciikliihaa
open Go.RowKit
set_option linter.unusedVariables false
def tbOk (m : Nat) : Bool := ((allH (2 * m) 0).map sysO).all fun a => ((allH (2 * m) 0).map sysO).all fun b => let x := comps (mf a) (mf b) (2 * m); decide (1 ≤ x) && decide (x ≤ m)
set_option maxRecDepth 100000 in
theorem tbOk_all (m : Nat) (h1 : 1 ≤ m) (h5 : m ≤ 5) : tbOk m = true := by
  have h : m = 1 ∨ m = 2 ∨ m = 3 ∨ m = 4 ∨ m = 5 := by omega
  rcases h with rfl | rfl | rfl | rfl | rfl <;> decide +kernel
theorem tbN_bd (m : Nat) (h1 : 1 ≤ m) (h5 : m ≤ 5) (i j : Nat) (hi : i < (allH (2 * m) 0).length) (hj : j < (allH (2 * m) 0).length) : 1 ≤ tbN m (allH (2 * m) 0) i j ∧ tbN m (allH (2 * m) 0) i j ≤ m := by
  have h := tbOk_all m h1 h5
  unfold tbOk at h
  have h := List.all_eq_true.1 h _ (List.mem_map.2 ⟨_, List.getElem_mem hi, rfl⟩)
  have h := List.all_eq_true.1 h _ (List.mem_map.2 ⟨_, List.getElem_mem hj, rfl⟩)
  simp only [Bool.and_eq_true, decide_eq_true_eq] at h
  unfold tbN
  rw [List.getD_eq_getElem?_getD, List.getD_eq_getElem?_getD, List.getElem?_eq_getElem hi, List.getElem?_eq_getElem hj]
  exact h
def bump (c : List Int) (x : Nat) : List Int := c.set (x - 1) (c.getD (x - 1) 0 + 1)
theorem bump_len (c : List Int) (x : Nat) : (bump c x).length = c.length := by rw [bump, List.length_set]
/-- The counts after q numbers of the row i. -/
def ccR (m : Nat) (LL : List (List UInt8)) (i : Nat) (c : List Int) : Nat → List Int
  | 0 => c
  | q + 1 => bump (ccR m LL i c q) (tbN m LL i q)
def ccT (m : Nat) (LL : List (List UInt8)) (n : Nat) : Nat → List Int
  | 0 => List.replicate m 0
  | k + 1 => ccR m LL k (ccT m LL n k) n
theorem ccR_len (m : Nat) (LL : List (List UInt8)) (i : Nat) (c : List Int) (q : Nat) : (ccR m LL i c q).length = c.length := by
  induction q with
  | zero => rfl
  | succ q ih => rw [ccR, bump_len, ih]
theorem ccT_len (m : Nat) (LL : List (List UInt8)) (n k : Nat) : (ccT m LL n k).length = m := by
  induction k with
  | zero => simp [ccT]
  | succ k ih => rw [ccT, ccR_len, ih]
def CB (c : List Int) (T : Nat) : Prop := ∀ j, 0 ≤ c.getD j 0 ∧ c.getD j 0 ≤ T
theorem CB.bump {c : List Int} {T : Nat} (h : CB c T) (x : Nat) : CB (bump c x) (T + 1) := fun j => by
  have h1 := h j
  have h2 := h (x - 1)
  unfold Go.Proofs.Ytlgdeciikliihaa.bump
  generalize c.getD (x - 1) 0 = y at *
  by_cases e : x - 1 = j
  · subst e
    by_cases hl : x - 1 < c.length
    · rw [List.getD_eq_getElem?_getD, List.getElem?_set_self hl]
      simp only [Option.getD_some]; omega
    · rw [List.getD_eq_getElem?_getD, List.getElem?_eq_none (by simp; omega)]
      simp only [Option.getD_none]; omega
  · rw [List.getD_eq_getElem?_getD, List.getElem?_set_ne e, ← List.getD_eq_getElem?_getD]; omega
theorem ccR_bd (m : Nat) (LL : List (List UInt8)) (i : Nat) (c : List Int) (T : Nat) (h : CB c T) (q : Nat) : CB (ccR m LL i c q) (T + q) := by
  induction q with
  | zero => exact h
  | succ q ih => exact ih.bump _
theorem ccT_bd (m : Nat) (LL : List (List UInt8)) (n : Nat) (hn : n ≤ 200) (k : Nat) : CB (ccT m LL n k) (200 * k) := by
  induction k with
  | zero => intro j; rw [ccT, List.getD_eq_getElem?_getD, List.getElem?_replicate]; split <;> simp
  | succ k ih =>
    have := ccR_bd m LL k _ _ ih n
    intro j
    have := this j
    rw [ccT]; omega
end Go.Proofs.Ytlgdeciikliihaa
namespace Go.Proofs.Ytlgdeciikliihaa
open Go.RowKit Go.BigFrame
set_option linter.unusedVariables false
set_option linter.unusedSimpArgs false
/-- Every two of these slices lie in blocks of their own. -/
def Dst (vs : List Value) : Prop := ∀ i j gi ci gj cj ni nj : Nat, i < j → vs[i]? = some (.slice (some ⟨gi, 0, none⟩) ni ci) → vs[j]? = some (.slice (some ⟨gj, 0, none⟩) nj cj) → gi ≠ gj
theorem Dst.snoc {vs : List Value} (h : Dst vs) (g n c S : Nat) (hS : S ≤ g) (hl : ∀ i gi ci ni : Nat, vs[i]? = some (.slice (some ⟨gi, 0, none⟩) ni ci) → gi < S) : Dst (vs ++ [.slice (some ⟨g, 0, none⟩) n c]) := by
  intro i j gi ci gj cj ni nj hij h1 h2
  by_cases hj : j < vs.length
  · rw [List.getElem?_append_left (by omega)] at h1
    rw [List.getElem?_append_left hj] at h2
    exact h i j gi ci gj cj ni nj hij h1 h2
  · rw [List.getElem?_append_right (by omega)] at h2
    by_cases e : j = vs.length
    · subst e
      rw [Nat.sub_self] at h2
      simp at h2
      rw [List.getElem?_append_left (by omega)] at h1
      have := hl i gi ci ni h1
      omega
    · rw [List.getElem?_eq_none (by simp; omega)] at h2
      cases h2
set_option maxRecDepth 100000 in
set_option maxHeartbeats 4000000 in
theorem tbU_ok (m : Nat) (h1 : 1 ≤ m) (h6 : m ≤ 6) (n : Nat) (hn : (allH (2 * m) 0).length = n) (w : World) :
    Calls Try.prog 19 #[.int .i64 m] w fun e w' => ∃ v vs, e = .returned v ∧ Rws w' w.heap.size v vs ∧ vs.length = n ∧ RwT w' w.heap.size m (allH (2 * m) 0) n vs n ∧ Dst vs ∧ Below w.heap.size w w' := by
  have hlen := allH_len12 m h1 h6
  rw [hn] at hlen
  have hL := Lib.hid (fun w => (allS_ok m h1 h6 w).mono fun e w' (h : TxPost w.heap.size [] (allH (2 * m) 0) w e w') => show ∃ g cap, e = .returned (.slice (some ⟨g, 0, none⟩) n cap) ∧ TMn w' w.heap.size (some ⟨g, 0, none⟩) (bsl (allH (2 * m) 0)) ∧ Below w.heap.size w w' from by
    obtain ⟨g, cap, rfl, hI, hB⟩ := h
    rw [List.nil_append] at hI ⊢
    exact ⟨g, cap, by rw [stval, bsl_len, hn], TMn.strs (Nat.le_refl _) hI, hB⟩)
  have hS := Lib.hid (fun k hk => all_sys m h1 h6 k hk)
  have HN := Lib.hid hn
  have HG := Lib.hid (fun j h => bsl_get (allH (2 * m) 0) j h)
  generalize allH (2 * m) 0 = LL at *
  clear hn
  go_enter Try.func19, Try.ntmps19
  go_wp2_with (first
    | (go_at_call 43; ((with_reducible refine (hL.out _).mono ?_); rintro e w1 ⟨gl, capl, rfl, hT, hB1⟩)))
  have HT1 := Lib.hid hT.rd
  have hs1 := hB1.size
  go_loopw [4, 5] (fun o i wr => ∃ (k : Nat) (vs : List Value), k ≤ n ∧ i = .int .i64 k ∧ vs.length = k ∧ Rws wr w1.heap.size o vs ∧ RwT wr w1.heap.size m LL n vs k ∧ Dst vs ∧ Below w1.heap.size w1 wr) (fun _ i _ => ((n : Int) - intOf i).toNat)
  case atStart => exact ⟨0, [], by omega, rfl, rfl, Rws.new w1 _ (Nat.le_refl _), fun i hi => by omega, fun i j gi ci gj cj ni nj _ h1 _ => by simp at h1, (Below.refl _ _).alloc (Nat.le_refl _) _⟩
  case round =>
    obtain ⟨k, vs, hk, rfl, hvs, hR, hRT, hDs, hB⟩ := hrel
    by_cases hlt : k < n
    · have hk1 := Lib.hid (show k < (bsl LL).length by rw [bsl_len, HN.out]; exact hlt)
      obtain ⟨p1, p2⟩ := hS.out k (by rw [HN.out]; exact hlt)
      have HG1 := HG.out k (by rw [HN.out]; exact hlt)
      obtain ⟨sA, hsA⟩ : ∃ s, bsv (LL.getD k []) = s := ⟨_, rfl⟩
      rw [hsA] at HG1
      have HG1 := Lib.hid HG1
      have HSA := Lib.hid hsA
      clear hsA
      have i1 : (k : Int) < (n : Int) := by omega
      obtain ⟨w2, rfl⟩ : ∃ x, x = wr := ⟨_, rfl⟩
      have HT := Lib.hid (HT1.out.below hB)
      have HR := Lib.hid hR
      have hltb : ∀ i gi ci ni : Nat, vs[i]? = some (.slice (some ⟨gi, 0, none⟩) ni ci) → gi < w2.heap.size := fun i gi ci ni h => by
        by_cases hi : i < vs.length
        · obtain ⟨ga, ca, h1, h2⟩ := hRT i (by omega)
          rw [h1] at h
          have := h2.lt
          simp at h
          omega
        · rw [List.getElem?_eq_none (by omega)] at h
          cases h
      have HDs := Lib.hid hDs
      have HLt := Lib.hid hltb
      have HRT := Lib.hid hRT
      clear hDs hltb
      have HB := Lib.hid hB
      have hs2 := hB.size
      clear hR hRT hB
      go_wp2
      go_loopw [6, 7] (fun s j wr => ∃ (q g cap : Nat), q ≤ n ∧ j = .int .i64 q ∧ s = .slice (some ⟨g, 0, none⟩) q cap ∧ Ints wr w2.heap.size g cap (rwN m LL k q) ∧ Below w2.heap.size w2 wr) (fun _ j _ => ((n : Int) - intOf j).toNat)
      case atStart => exact ⟨0, w2.heap.size, 0, by omega, rfl, rfl, Ints.new w2 _ _ 0 (Nat.le_refl _) rfl (by decide) _ rfl, (Below.refl _ _).alloc (Nat.le_refl _) _⟩
      case round =>
        obtain ⟨q, g, cap, hq, rfl, rfl, hI, hB⟩ := hrel
        by_cases hlt2 : q < n
        · have hq1 := Lib.hid (show q < (bsl LL).length by rw [bsl_len, HN.out]; exact hlt2)
          obtain ⟨p3, p4⟩ := hS.out q (by rw [HN.out]; exact hlt2)
          have HG2 := HG.out q (by rw [HN.out]; exact hlt2)
          obtain ⟨sB, hsB⟩ : ∃ s, bsv (LL.getD q []) = s := ⟨_, rfl⟩
          rw [hsB] at HG2
          have HG2 := Lib.hid HG2
          have i2 : (q : Int) < (n : Int) := by omega
          have hC := fun w => cts_any (bsv (LL.getD k [])) (bsv (LL.getD q [])) (by rw [bsv_size]; omega) (by rw [bsv_size]; omega) (sysO (LL.getD k [])) (sysO (LL.getD q [])) (by rw [bsv_list]; exact p1) (by rw [bsv_list]; exact p3) (2 * m) (by rw [bsv_size]; exact p2) (by rw [bsv_size]; exact p4) w
          simp only [HSA.out, hsB] at hC
          have hC := Lib.hid (show ∀ w, Calls Try.prog 44 #[.string sA, .string sB] w fun e w' => e = .returned (.int .i64 (tbN m LL k q : Nat)) ∧ Below w.heap.size w w' from hC)
          have hst := Lib.hid (show rwN m LL k (q + 1) = rwN m LL k q ++ [(tbN m LL k q : Int)] from rfl)
          obtain ⟨x, hx⟩ : ∃ x, tbN m LL k q = x := ⟨_, rfl⟩
          rw [hx] at hC hst
          clear p3 p4 hx hsB
          have hln := Lib.hid (rwN_len m LL k q)
          go_wp2
          refine wp_region_on (fun w' => Ints w' w2.heap.size g cap (rwN m LL k q) ∧ Below w2.heap.size w2 w') [0, 1, 2, 3, 4, 5, 6, 7, 8] [9, 10] 11 (by kernel_rfl) (by kernel_rfl) ⟨hI.drewN 1, Below.drewN hB 1⟩ ?_
          simp only [List.map_cons, List.map_nil, opN_zero, opN_succ, List.drop_succ_cons, List.drop_zero]
          have hg0 := hI.1
          clear hI hB
          (apply wpOn_step; · (intro wd hS K hK; have d1 := (HT.out.below hS.2).cell _ rfl k hk1.out; have d2 := (HT.out.below hS.2).cell _ rfl q hq1.out; rw [HG1.out, show (⟨gl, 0, none⟩ : Addr).add k = ⟨gl, k, none⟩ by rw [Addr.add_mid, Nat.zero_add]] at d1; rw [HG2.out, show (⟨gl, 0, none⟩ : Addr).add q = ⟨gl, q, none⟩ by rw [Addr.add_mid, Nat.zero_add]] at d2; clear hS; go_simp; exact hK))
          (apply wpOn_step; · (intro wd hS K hK; have d1 := (HT.out.below hS.2).cell _ rfl k hk1.out; have d2 := (HT.out.below hS.2).cell _ rfl q hq1.out; rw [HG1.out, show (⟨gl, 0, none⟩ : Addr).add k = ⟨gl, k, none⟩ by rw [Addr.add_mid, Nat.zero_add]] at d1; rw [HG2.out, show (⟨gl, 0, none⟩ : Addr).add q = ⟨gl, q, none⟩ by rw [Addr.add_mid, Nat.zero_add]] at d2; clear hS; go_simp; exact hK))
          (apply wpOn_step; · (intro wd hS K hK; have d1 := (HT.out.below hS.2).cell _ rfl k hk1.out; have d2 := (HT.out.below hS.2).cell _ rfl q hq1.out; rw [HG1.out, show (⟨gl, 0, none⟩ : Addr).add k = ⟨gl, k, none⟩ by rw [Addr.add_mid, Nat.zero_add]] at d1; rw [HG2.out, show (⟨gl, 0, none⟩ : Addr).add q = ⟨gl, q, none⟩ by rw [Addr.add_mid, Nat.zero_add]] at d2; clear hS; go_simp; exact hK))
          (apply wpOn_step; · (intro wd hS K hK; have d1 := (HT.out.below hS.2).cell _ rfl k hk1.out; have d2 := (HT.out.below hS.2).cell _ rfl q hq1.out; rw [HG1.out, show (⟨gl, 0, none⟩ : Addr).add k = ⟨gl, k, none⟩ by rw [Addr.add_mid, Nat.zero_add]] at d1; rw [HG2.out, show (⟨gl, 0, none⟩ : Addr).add q = ⟨gl, q, none⟩ by rw [Addr.add_mid, Nat.zero_add]] at d2; clear hS; go_simp; exact hK))
          (apply wpOn_step; · (intro wd hS K hK; have d1 := (HT.out.below hS.2).cell _ rfl k hk1.out; have d2 := (HT.out.below hS.2).cell _ rfl q hq1.out; rw [HG1.out, show (⟨gl, 0, none⟩ : Addr).add k = ⟨gl, k, none⟩ by rw [Addr.add_mid, Nat.zero_add]] at d1; rw [HG2.out, show (⟨gl, 0, none⟩ : Addr).add q = ⟨gl, q, none⟩ by rw [Addr.add_mid, Nat.zero_add]] at d2; clear hS; go_simp; exact hK))
          (apply wpOn_step; · (intro wd hS K hK; have d1 := (HT.out.below hS.2).cell _ rfl k hk1.out; have d2 := (HT.out.below hS.2).cell _ rfl q hq1.out; rw [HG1.out, show (⟨gl, 0, none⟩ : Addr).add k = ⟨gl, k, none⟩ by rw [Addr.add_mid, Nat.zero_add]] at d1; rw [HG2.out, show (⟨gl, 0, none⟩ : Addr).add q = ⟨gl, q, none⟩ by rw [Addr.add_mid, Nat.zero_add]] at d2; clear hS; go_simp; exact hK))
          (apply wpOn_step; · (intro wd hS K hK; have d1 := (HT.out.below hS.2).cell _ rfl k hk1.out; have d2 := (HT.out.below hS.2).cell _ rfl q hq1.out; rw [HG1.out, show (⟨gl, 0, none⟩ : Addr).add k = ⟨gl, k, none⟩ by rw [Addr.add_mid, Nat.zero_add]] at d1; rw [HG2.out, show (⟨gl, 0, none⟩ : Addr).add q = ⟨gl, q, none⟩ by rw [Addr.add_mid, Nat.zero_add]] at d2; clear hS; go_simp; exact hK))
          (apply wpOn_step; · (intro wd hS K hK; have d1 := (HT.out.below hS.2).cell _ rfl k hk1.out; have d2 := (HT.out.below hS.2).cell _ rfl q hq1.out; rw [HG1.out, show (⟨gl, 0, none⟩ : Addr).add k = ⟨gl, k, none⟩ by rw [Addr.add_mid, Nat.zero_add]] at d1; rw [HG2.out, show (⟨gl, 0, none⟩ : Addr).add q = ⟨gl, q, none⟩ by rw [Addr.add_mid, Nat.zero_add]] at d2; clear hS; go_simp; exact hK))
          (apply wpOn_step; · (intro wd hS K hK; have d1 := (HT.out.below hS.2).cell _ rfl k hk1.out; have d2 := (HT.out.below hS.2).cell _ rfl q hq1.out; rw [HG1.out, show (⟨gl, 0, none⟩ : Addr).add k = ⟨gl, k, none⟩ by rw [Addr.add_mid, Nat.zero_add]] at d1; rw [HG2.out, show (⟨gl, 0, none⟩ : Addr).add q = ⟨gl, q, none⟩ by rw [Addr.add_mid, Nat.zero_add]] at d2; clear hS; go_simp; exact hK))
          refine wpOn_nil ?_
          rintro w8 ⟨hI8, hB8⟩
          refine wpMid_step (fun K hK => ?_)
          go_wp2_with (first
            | (go_at_call 44; ((with_reducible refine (hC.out w8).mono ?_); rintro e w9 ⟨rfl, hB9⟩)))
          refine hK _ _ ⟨hI8.below hB9 hI8.lt, hB8.trans (hB9.mono hB8.size)⟩ ?_
          clear hK K
          have hI9 := hI8.below hB9 hI8.lt
          have hBx := hB8.trans (hB9.mono hB8.size)
          have hs9 := hBx.size
          clear hI8 hB8 hB9
          refine wpMid_step (fun K hK => ?_)
          go_wp2
          refine hK _ _ ⟨hI9.alloc _, hBx.alloc hs9 _⟩ ?_
          clear hK K
          refine wpMid_nil ?_
          go_wp2_with (first
            | (refine wpList_append_ints rfl (.tmp 24) (.tmp 34) rfl w2.heap.size g cap (rwN m LL k q) (x : Int) (by rw [ival, hln.out]; rfl) (hI9.alloc _) ⟨w9.heap.size, 0, none⟩ 1 rfl ((Own.new _ _ _).cell 0) (by rw [hln.out]; omega) (by simp; omega) ?_; intro g2 cap2 w3 hI3 hG3; rw [← hst.out] at hI3 ⊢; rw [ival, rwN_len]))
          go_roundw
          case rel => exact ⟨q + 1, g2, cap2, by omega, by go_num, rfl, hI3, (hBx.alloc hs9 _).grown hG3 (by simp; omega) (fun k e => by cases e; exact hg0)⟩
          case measure => simp [intOf]; omega
        · have e : q = n := by omega
          subst e
          have HI := Lib.hid hI
          have hsB := hB.size
          have HBI := Lib.hid hB
          have hRc := Lib.hid ((HR.out.below hB).of_same (w' := wr.alloc (.cells #[.slice (some ⟨g, 0, none⟩) q cap] 28)) (fun j _ hj => Below.heap_alloc _ _ _ hj))
          clear hI hB
          go_wp2_with (first
            | (refine wpList_append_rws rfl (.tmp 36) (.tmp 38) rfl w1.heap.size _ vs (some ⟨g, 0, none⟩) q cap rfl hRc.out ⟨wr.heap.size, 0, none⟩ 1 rfl ((Own.new _ _ _).cell 0) (by omega) (by simp; omega) ?_; intro v4 w4 hR4 hG4))
          go_roundw
          case rel =>
            have hty := hRc.out.own_ty
            have keep : ∀ gg cc xs, Ints (wr.alloc (.cells #[.slice (some ⟨g, 0, none⟩) q cap] 28)) w1.heap.size gg cc xs → Ints w4 w1.heap.size gg cc xs := fun gg cc xs h => by
              obtain ⟨a1, a2, a3, cur, a4, a5, a6⟩ := h
              refine ⟨a1, a2, a3, cur, (hG4.block gg a4.lt (fun e => ?_)).trans a4, a5, a6⟩
              obtain ⟨_, cs, hc⟩ := hty gg e.symm
              exact Own.neT a4 hc (by decide) rfl
            have hI5 : Ints (wr.alloc (.cells #[.slice (some ⟨g, 0, none⟩) q cap] 28)) w1.heap.size g cap (rwN m LL k q) := (HI.out.rebase hs2).alloc _
            refine ⟨k + 1, vs ++ [.slice (some ⟨g, 0, none⟩) q cap], by omega, by go_num, by simp [hvs], hR4, fun i hi => ?_, HDs.out.snoc g q cap w2.heap.size HI.out.1 HLt.out, ?_⟩
            · by_cases ei : i = k
              · subst ei
                exact ⟨g, cap, by rw [List.getElem?_append_right (by omega)]; simp [hvs], keep _ _ _ hI5⟩
              · obtain ⟨ga, ca, ga1, ga2⟩ := (HRT.out.below HBI.out) i (by omega)
                exact ⟨ga, ca, by rw [List.getElem?_append_left (by omega)]; exact ga1, keep _ _ _ (ga2.alloc _)⟩
            · exact (((HB.out.trans (HBI.out.mono hs2)).alloc (by omega) _)).grown hG4 (by simp; omega) (fun r e => (hty r (by first | exact e | exact e.symm)).1)
          case measure => simp [intOf]; omega
    · have e : k = n := by omega
      subst e
      go_wp2
      go_ret
      exact ⟨_, vs, rfl, hR.base hs1, hvs, hRT.base hs1, hDs, hB1.trans (hB.mono hs1)⟩
end Go.Proofs.Ytlgdeciikliihaa
namespace Go.Proofs.Ytlgdeciikliihaa
open Go.RowKit
set_option linter.unusedVariables false
set_option linter.unusedSimpArgs false
set_option maxRecDepth 100000 in
theorem detI_any (p : Int) (hp : primeB p = true) (g1 g2 N n : Nat) (hN : N ≤ 1000) (hn : n ≤ 1000) (B : Nat) (hB1 : B ≤ g1) (hB2 : B ≤ g2) (os0 : List Nat) (R0 : List (List Int)) (hok : RowsP p n R0) (w : World) (h : Tbd w g1 g2 N n os0 R0) (hBw : B ≤ w.heap.size) :
    Calls Try.prog 26 #[.int .i64 p, .slice (some ⟨g2, 0, none⟩) N N] w fun e w' => e = .returned (.int .i64 (resI p n N R0 1)) ∧ Below B w w' := by
  have hr := Lib.hid (redI_any p hp g1 g2 N n hN hn B hB1 hB2 os0 R0 hok w h hBw)
  obtain ⟨A, hA⟩ : ∃ A, resI p n N R0 1 = A := ⟨_, rfl⟩
  rw [hA] at hr ⊢
  unfold RedPost at hr
  clear hA hok h
  go_enter Try.func26, Try.ntmps26
  go_wp2_with fail
  refine (hr.out).mono ?_
  rintro e w1 ⟨k, f, rfl, hk, h1, h2, hB⟩
  by_cases hkN : k < N
  · have kI : (k : Int) < (N : Int) := by omega
    have hA := Lib.hid (h2 hkN)
    clear h1 h2
    go_wp2
    go_ret
    exact ⟨by rw [hA.out]; rfl, hB⟩
  · have kI : ¬ (k : Int) < (N : Int) := by omega
    have hA := Lib.hid (h1 (by omega))
    clear h1 h2
    go_wp2
    go_ret
    exact ⟨by rw [hA.out]; rfl, hB⟩
/-- The first k numbers of all, as powers. -/
def pwL (p c : Int) (ns : List Int) (k : Nat) : List Int := (List.range ns.length).map (fun i => if i < k then pw p c (ns.getD i 0).toNat else ns.getD i 0)
theorem pwL_len (p c : Int) (ns : List Int) (k : Nat) : (pwL p c ns k).length = ns.length := by simp [pwL]
theorem pwL_get (p c : Int) (ns : List Int) (k i : Nat) (h : i < ns.length) : (pwL p c ns k).getD i 0 = if i < k then pw p c (ns.getD i 0).toNat else ns.getD i 0 := by
  simp [pwL, List.getD_eq_getElem?_getD, h]
theorem pwL_zero (p c : Int) (ns : List Int) : pwL p c ns 0 = ns := by
  apply List.ext_getElem (by rw [pwL_len])
  intro i h1 h2
  have := pwL_get p c ns 0 i h2
  rw [if_neg (by omega), List.getD_eq_getElem?_getD, List.getD_eq_getElem?_getD, List.getElem?_eq_getElem h1, List.getElem?_eq_getElem h2] at this
  exact this
theorem pwL_succ (p c : Int) (ns : List Int) (k : Nat) (h : k < ns.length) : pwL p c ns (k + 1) = (pwL p c ns k).set k (pw p c (ns.getD k 0).toNat) := by
  apply List.ext_getElem (by rw [List.length_set, pwL_len, pwL_len])
  intro i h1 h2
  rw [pwL_len] at h1
  have a := pwL_get p c ns (k + 1) i h1
  have b := getD_set (pwL p c ns k) k i (pw p c (ns.getD k 0).toNat) (by rw [pwL_len]; exact h)
  rw [pwL_get p c ns k i h1] at b
  have e : (pwL p c ns (k + 1)).getD i 0 = ((pwL p c ns k).set k (pw p c (ns.getD k 0).toNat)).getD i 0 := by
    rw [a, b]
    by_cases e : i = k
    · subst e; rw [if_pos (by omega), if_pos rfl]
    · rw [if_neg e]
      by_cases e2 : i < k
      · rw [if_pos (by omega), if_pos e2]
      · rw [if_neg (by omega), if_neg e2]
  rw [List.getD_eq_getElem?_getD, List.getD_eq_getElem?_getD, List.getElem?_eq_getElem (by rw [pwL_len]; exact h1), List.getElem?_eq_getElem h2] at e
  exact e
/-- The table of powers. -/
def pwT (p c : Int) (m : Nat) (LL : List (List UInt8)) (n : Nat) : List (List Int) := (List.range n).map (fun i => (List.range n).map (fun j => pw p c (tbN m LL i j)))
theorem pwT_len (p c : Int) (m : Nat) (LL : List (List UInt8)) (n : Nat) : (pwT p c m LL n).length = n := by simp [pwT]
theorem pwT_row (p c : Int) (m : Nat) (LL : List (List UInt8)) (n i : Nat) (h : i < n) : rw' (pwT p c m LL n) i = (List.range n).map (fun j => pw p c (tbN m LL i j)) := by
  simp [rw', pwT, List.getD_eq_getElem?_getD, h]
theorem pwT_get (p c : Int) (m : Nat) (LL : List (List UInt8)) (n i j : Nat) (h : i < n) (hj : j < n) : (rw' (pwT p c m LL n) i).getD j 0 = pw p c (tbN m LL i j) := by
  rw [pwT_row _ _ _ _ _ _ h]
  simp [List.getD_eq_getElem?_getD, hj]
theorem pwT_ok (p c : Int) (m : Nat) (LL : List (List UInt8)) (n : Nat) (hp : 2 ≤ p) : RowsP p n (pwT p c m LL n) := by
  refine ⟨fun i hi => ?_, fun i j hi hj => ?_, fun i j _ hj => by omega⟩
  · rw [pwT_len] at hi
    rw [pwT_row _ _ _ _ _ _ hi]; simp
  · rw [pwT_len] at hi
    rw [pwT_get _ _ _ _ _ _ _ hi hj]
    exact pw_range p c hp _
theorem rof_hdr {cs : Array Value} {g n : Nat} (h : Rof cs g n n) : cs = hdr g n ((List.range n).map (fun i => i * n)) := by
  apply Array.ext_getElem?
  intro i
  by_cases hi : i < n
  · rw [h.2 i hi, hdr_get _ _ _ _ (by simpa using hi)]
    simp [List.getD_eq_getElem?_getD, hi]
  · rw [Array.getElem?_eq_none (by rw [h.1]; omega), Array.getElem?_eq_none (by simp [hdr]; omega)]
theorem row_room {i n : Nat} (h : i < n) : i * n + n ≤ n * n := by
  have := Nat.mul_le_mul_right n (show i + 1 ≤ n by omega)
  rwa [Nat.succ_mul] at this
theorem row_apart {i j n : Nat} (h : i ≠ j) : i * n + n ≤ j * n ∨ j * n + n ≤ i * n := by
  rcases Nat.lt_or_gt_of_ne h with h | h
  · left
    have := Nat.mul_le_mul_right n (show i + 1 ≤ j by omega)
    rwa [Nat.succ_mul] at this
  · right
    have := Nat.mul_le_mul_right n (show j + 1 ≤ i by omega)
    rwa [Nat.succ_mul] at this
theorem rng_get (n i : Nat) (h : i < n) : ((List.range n).map (fun i => i * n)).getD i 0 = i * n := by simp [List.getD_eq_getElem?_getD, h]
set_option maxRecDepth 100000 in
set_option maxHeartbeats 4000000 in
theorem cdI_ok (p c : Int) (hp : primeB p = true) (c0 : 0 ≤ c) (c1 : c < p) (m : Nat) (h1 : 1 ≤ m) (h4 : m ≤ 4) (n : Nat) (hn : (allH (2 * m) 0).length = n) (h0 : 1 ≤ n) (hn2 : n ≤ 1000) (w : World) :
    Calls Try.prog 7 #[.int .i64 p, .int .i64 c, .int .i64 m] w fun e w' => e = .returned (.tuple #[.int .i64 (resI p n n (pwT p c m (allH (2 * m) 0) n) 1), .int .i64 0]) ∧ Below w.heap.size w w' := by
  obtain ⟨p2, p97⟩ := primeB_two hp
  have hmd := Lib.hid (fun w => (modI_any p c w).mono fun e w' h => (show e = .returned (.bool true) ∧ w = w' from ⟨by rw [h.1, hp, show decide (0 ≤ c ∧ c < p) = true by simp; omega]; rfl, h.2.symm⟩))
  have har := Lib.hid (fun w => areI_t (m : Int) 4 w (by omega) (by omega))
  have htb := Lib.hid (fun w => tbI_ok m h1 (by omega) n hn h0 w)
  have htbd := Lib.hid (show ∀ i j, i < n → j < n → tbN m (allH (2 * m) 0) i j ≤ 1000 from fun i j hi hj => by have := tbN_bd m h1 (by omega) i j (by rw [hn]; exact hi) (by rw [hn]; exact hj); omega)
  have hok := Lib.hid (pwT_ok p c m (allH (2 * m) 0) n p2)
  have hpr := Lib.hid hp
  have hgt := Lib.hid (pwT_get p c m (allH (2 * m) 0) n)
  have hrw := Lib.hid (show ∀ i, i < n → (rw' (pwT p c m (allH (2 * m) 0) n) i).length = n from fun i hi => (pwT_ok p c m (allH (2 * m) 0) n p2).len i (by rw [pwT_len]; exact hi))
  have hpwl := Lib.hid (pwT_len p c m (allH (2 * m) 0) n)
  have hpwI := Lib.hid (fun (k : Nat) w1 (hk : k ≤ 1000) => (powI_any p c k w1 p2 p97 c0 c1 hk).mono fun e w' h => (show e = .returned (.int .i64 (pw p c k)) ∧ w' = w1 from ⟨h.1, h.2.symm⟩))
  obtain ⟨R, hR⟩ : ∃ R, pwT p c m (allH (2 * m) 0) n = R := ⟨_, rfl⟩
  rw [hR] at hok hgt hrw hpwl ⊢
  generalize allH (2 * m) 0 = LL at *
  clear hp hn hR
  go_enter Try.func7, Try.ntmps7
  go_wp2_with (first
    | (go_at_call 22; ((with_reducible refine (hmd.out _).mono ?_); rintro e w0 ⟨rfl, rfl⟩))
    | (go_at_call 23; ((with_reducible refine (har.out _).mono ?_); rintro e wa ⟨rfl, rfl⟩))
    | (go_at_call 24; ((with_reducible refine (htb.out _).mono ?_); rintro e w1 ⟨g1, g2, cs, ns, hg1, hg2, rfl, hO1, hO2, hRo, hnl, hF, hB1⟩)))
  have HR := Lib.hid hRo
  have hne : g1 ≠ g2 := fun e => Own.neT hO1 hO2 (by decide) e
  have hFl := Lib.hid hF
  have hnl' := Lib.hid hnl
  have nO : Own w1 g1 (icells (pwL p c ns (0 * n))) 2 := by rw [Nat.zero_mul, pwL_zero]; exact hO1
  clear hRo hF hnl hO1 hmd har htb
  go_loopw [26] (fun i wr => ∃ k : Nat, k ≤ n ∧ i = .int .i64 k ∧ Own wr g1 (icells (pwL p c ns (k * n))) 2 ∧ Own wr g2 cs 28 ∧ Below w.heap.size w wr) (fun i _ => ((n : Int) - intOf i).toNat)
  case atStart => exact ⟨0, Nat.zero_le _, rfl, nO, hO2, hB1⟩
  case round =>
    clear nO hO2 hB1
    obtain ⟨k, hk, rfl, hO, hH, hB⟩ := hrel
    by_cases hlt : k < n
    · have kI : (k : Int) < (n : Int) := by omega
      have c2 := (hH.cell k).trans (HR.out.2 k hlt)
      have hkr := Lib.hid (row_room hlt)
      obtain ⟨P, hP⟩ : ∃ P, k * n = P := ⟨_, rfl⟩
      rw [hP] at c2 hO hkr
      have hP' := Lib.hid hP
      clear hP
      go_wp2
      go_loopw [32] (fun j wj => ∃ q : Nat, q ≤ n ∧ j = .int .i64 q ∧ Own wj g1 (icells (pwL p c ns (P + q))) 2 ∧ Own wj g2 cs 28 ∧ Below w.heap.size w wj) (fun j _ => ((n : Int) - intOf j).toNat)
      case atStart => exact ⟨0, Nat.zero_le _, rfl, hO, hH, hB⟩
      case round =>
        clear hO hH hB c2
        obtain ⟨q, hq, rfl, hO, hH, hB⟩ := hrel
        by_cases hqn : q < n
        · have qI : (q : Int) < (n : Int) := by omega
          have hin : P + q < ns.length := by have := hkr.out; rw [hnl'.out]; omega
          have hnv : ns.getD (P + q) 0 = (tbN m LL k q : Int) := by have := hFl.out k q hlt hqn (by omega); rwa [hP'.out] at this
          have c3 := hO.cell (P + q)
          rw [icells_get _ _ (by rw [pwL_len]; exact hin), pwL_get _ _ _ _ _ hin, if_neg (by omega), hnv] at c3
          have f3 := hO.free (P + q)
          have hsu := pwL_succ p c ns (P + q) hin
          rw [hnv, Int.toNat_natCast] at hsu
          have hpk := Lib.hid (fun w => hpwI.out (tbN m LL k q) w (htbd.out k q hlt hqn))
          obtain ⟨t, ht⟩ : ∃ t, tbN m LL k q = t := ⟨_, rfl⟩
          rw [ht] at c3 hsu hpk
          obtain ⟨x, hx⟩ : ∃ x, pw p c t = x := ⟨_, rfl⟩
          rw [hx] at hsu hpk
          have hO2 := hO.set (P + q) (.int .i64 x)
          rw [icells_set, ← hsu] at hO2
          have K1 := Lib.hid (show Own _ g1 (icells (pwL p c ns (P + (q + 1)))) 2 from hO2)
          have K2 := Lib.hid (hH.other (a := ⟨g1, P + q, none⟩) (by simpa using hne) (.int .i64 x))
          have K3 := Lib.hid (hB.setCell (p := ⟨g1, P + q, none⟩) hg1 (.int .i64 x))
          clear hO hO2 hH hB hsu ht hx hnv hin
          go_wp2_with (first
            | (go_at_call 25; ((with_reducible refine (hpk.out _).mono ?_); rintro e w4 ⟨rfl, rfl⟩)))
          go_roundw
          case rel => exact ⟨q + 1, by omega, by go_num, K1.out, K2.out, K3.out⟩
          case measure => simp [intOf]; omega
        · obtain rfl : q = n := by omega
          have K1 := Lib.hid (show Own wr g1 (icells (pwL p c ns ((k + 1) * q))) 2 by rw [Nat.succ_mul, hP'.out]; exact hO)
          clear hO
          go_wp2
          go_roundw
          case rel => exact ⟨k + 1, by omega, by go_num, K1.out, hH, hB⟩
          case measure => simp [intOf]; omega
    · obtain rfl : k = n := by omega
      have hT : Tbd wr g1 g2 k k ((List.range k).map (fun i => i * k)) R := by
        refine ⟨hne, _, hO, by rw [← rof_hdr HR.out]; exact hH, by simp, hpwl.out, hrw.out, fun i hi => ?_, fun i j hi hj hij => ?_, fun i j hi hj => ?_⟩
        · rw [rng_get _ _ hi, pwL_len, hnl'.out]; exact row_room hi
        · rw [rng_get _ _ hi, rng_get _ _ hj]; exact row_apart hij
        · have h1 := row_room hi
          rw [rng_get _ _ hi, pwL_get _ _ _ _ _ (by rw [hnl'.out]; omega), if_pos (by omega), hgt.out i j hi hj, hFl.out i j hi hj (by omega), Int.toNat_natCast]
      have hdt := Lib.hid (detI_any p hpr.out g1 g2 k k hn2 hn2 w.heap.size hg1 hg2 _ R hok.out wr hT hB.size)
      have K4 := Lib.hid hB
      clear hO hH hB hT hFl HR
      go_wp2_with (first
        | (go_at_call 26; ((with_reducible refine (hdt.out).mono ?_); rintro e w5 ⟨rfl, hB5⟩)))
      go_ret2
      exact ⟨rfl, K4.out.trans hB5⟩
theorem cdI_bad (p c m : Int) (h : (primeB p && decide (0 ≤ c ∧ c < p) && decide (1 ≤ m ∧ m ≤ 4)) = false) (w : World) : Calls Try.prog 7 #[.int .i64 p, .int .i64 c, .int .i64 m] w fun e w' => e = .returned (.tuple #[.int .i64 0, .int .i64 2]) ∧ Below w.heap.size w w' := by
  have hmd := Lib.hid (fun w => (modI_any p c w).mono fun e w' h => (show e = .returned (.bool (primeB p && decide (0 ≤ c ∧ c < p))) ∧ w = w' from ⟨h.1, h.2.symm⟩))
  cases hm : (primeB p && decide (0 ≤ c ∧ c < p)) with
  | false =>
    rw [hm] at hmd
    clear h hm
    go_enter Try.func7, Try.ntmps7
    go_wp2_with (first
      | (go_at_call 22; ((with_reducible refine (hmd.out _).mono ?_); rintro e w0 ⟨rfl, rfl⟩)))
    go_ret2
    exact ⟨rfl, Below.refl _ _⟩
  | true =>
    rw [hm] at hmd h
    rw [Bool.true_and, decide_eq_false_iff_not] at h
    have har := Lib.hid (fun w => areI_f m 4 w (by omega))
    clear h hm
    go_enter Try.func7, Try.ntmps7
    go_wp2_with (first
      | (go_at_call 22; ((with_reducible refine (hmd.out _).mono ?_); rintro e w0 ⟨rfl, rfl⟩))
      | (go_at_call 23; ((with_reducible refine (har.out _).mono ?_); rintro e wa ⟨rfl, rfl⟩)))
    go_ret2
    exact ⟨rfl, Below.refl _ _⟩
end Go.Proofs.Ytlgdeciikliihaa
namespace Go.Proofs.Ytlgdeciikliihaa
open Go.RowKit
set_option linter.unusedVariables false
set_option linter.unusedSimpArgs false
set_option maxRecDepth 100000 in
theorem powS_any (p k : Int) (n : Nat) (w : World) (hp : 2 ≤ p) (hp2 : p ≤ 97) (hk0 : 0 ≤ k) (hk1 : k < p) (hn : n ≤ 1000) :
    Calls Try.prog 20 #[.int .i64 p, .int .i64 k, .int .i64 n] w fun e w' => e = .returned (.int .i64 (pw p k n)) ∧ w = w' := by
  have e0 : (p == 0) = false := by simp; omega
  have e1 : Int.tmod 1 p = 1 := by rw [Int.tmod_eq_emod_of_nonneg (by omega)]; exact Int.emod_eq_of_lt (by omega) (by omega)
  have hr := Lib.hid (pw_range p k hp)
  go_enter Try.func20, Try.ntmps20
  go_wp2
  go_loopw [2, 7] (fun i v wr => ∃ j : Nat, j ≤ n ∧ i = .int .i64 ((n - j : Nat) : Int) ∧ v = .int .i64 (pw p k j) ∧ wr = w) (fun i _ _ => (intOf i).toNat)
  case atStart => exact ⟨0, by omega, rfl, rfl, rfl⟩
  case round =>
    obtain ⟨j, hj, rfl, rfl, rfl⟩ := hrel
    by_cases hlt : j < n
    · obtain ⟨m, hm⟩ : ∃ m, n - j = m + 1 := ⟨n - j - 1, by omega⟩
      rw [hm]
      have r := hr.out j
      have m1 := bnd_mul p (pw p k j) k 0 hp hp2 r.1 r.2 hk0 hk1
      have hx : Hid (pw p k (j + 1) = pw p k j * k % p) := Lib.hid rfl
      have hm' := Lib.hid (show m = n - (j + 1) by omega)
      generalize pw p k j = x at *
      go_wp2
      go_roundw
      case rel => exact ⟨j + 1, by omega, by rw [← hm'.out] <;> simp, by rw [hx.out], trivial⟩
      case measure => simp [intOf]
    · obtain rfl : j = n := by omega
      rw [Nat.sub_self]
      go_wp2
      go_ret
      exact ⟨rfl, rfl⟩
theorem allH_pos (m : Nat) (h1 : 1 ≤ m) (h6 : m ≤ 6) : 1 ≤ (allH (2 * m) 0).length := by
  have h : m = 1 ∨ m = 2 ∨ m = 3 ∨ m = 4 ∨ m = 5 ∨ m = 6 := by omega
  rcases h with rfl | rfl | rfl | rfl | rfl | rfl <;> decide +kernel
theorem resM_bd (p : Int) (n : Nat) (hp : 2 ≤ p) (f : Nat) : ∀ (T : List (List Int)) (d : Int), 0 ≤ d → d < p → 0 ≤ resM p n f T d ∧ resM p n f T d < p := by
  induction f with
  | zero => intro T d h0 h1; exact ⟨h0, h1⟩
  | succ f ih =>
    intro T d h0 h1
    rw [resM]
    split
    · exact ih _ _ (by omega) (by omega)
    · have := stF_bd p (bst T (n - (f + 1)) T.length 0) d ((rw' T (bst T (n - (f + 1)) T.length 0)).getD (n - (f + 1)) 0) hp
      exact ih _ _ this.1 this.2
theorem numS_any (p c : Int) (w : World) (hp : -9223372036854775808 ≤ p ∧ p ≤ 9223372036854775807) : Calls Try.prog 17 #[.int .i64 p, .int .i64 c] w fun e w' => e = .returned (.bool (primeB p && decide (0 ≤ c ∧ c < p))) ∧ w' = w := by
  have hq := Lib.hid (fun w => primeS_any p w hp)
  cases hb : primeB p with
  | false =>
    rw [hb] at hq
    rw [Bool.false_and]
    clear hb
    go_enter Try.func17, Try.ntmps17
    go_wp2_with (first
      | (go_at_call 42; ((with_reducible refine (hq.out _).mono ?_); rintro e w1 ⟨rfl, rfl⟩)))
    go_ret
    exact ⟨rfl, rfl⟩
  | true =>
    have h2 := primeB_two hb
    rw [hb] at hq
    rw [Bool.true_and]
    clear hb
    by_cases h : 0 ≤ c ∧ c < p
    · rw [show decide (0 ≤ c ∧ c < p) = true by simp; omega]
      go_enter Try.func17, Try.ntmps17
      go_wp2_with (first
        | (go_at_call 42; ((with_reducible refine (hq.out _).mono ?_); rintro e w1 ⟨rfl, rfl⟩))
        | (go_at_call 18; ((with_reducible refine (inS_t c 0 (p - 1) _ (by omega) (by omega)).mono ?_); rintro e w1 ⟨rfl, rfl⟩)))
      go_ret
      exact ⟨rfl, rfl⟩
    · rw [show decide (0 ≤ c ∧ c < p) = false by simp; omega]
      have h' := Lib.hid (show c < 0 ∨ p - 1 < c by omega)
      go_enter Try.func17, Try.ntmps17
      go_wp2_with (first
        | (go_at_call 42; ((with_reducible refine (hq.out _).mono ?_); rintro e w1 ⟨rfl, rfl⟩))
        | (go_at_call 18; ((with_reducible refine (inS_f c 0 (p - 1) _ h'.out).mono ?_); rintro e w1 ⟨rfl, rfl⟩)))
      go_ret
      exact ⟨rfl, rfl⟩
/-- The table after k rows and q numbers of the row k. -/
def ptab (p c : Int) (m : Nat) (LL : List (List UInt8)) (n k q : Nat) : List (List Int) := (List.range n).map (fun i => (List.range n).map (fun j => if i < k ∨ (i = k ∧ j < q) then pw p c (tbN m LL i j) else (tbN m LL i j : Int)))
theorem ptab_len (p c : Int) (m : Nat) (LL : List (List UInt8)) (n k q : Nat) : (ptab p c m LL n k q).length = n := by simp [ptab]
theorem ptab_row (p c : Int) (m : Nat) (LL : List (List UInt8)) (n k q i : Nat) (h : i < n) : rw' (ptab p c m LL n k q) i = (List.range n).map (fun j => if i < k ∨ (i = k ∧ j < q) then pw p c (tbN m LL i j) else (tbN m LL i j : Int)) := by
  simp [rw', ptab, List.getD_eq_getElem?_getD, h]
theorem ptab_get (p c : Int) (m : Nat) (LL : List (List UInt8)) (n k q i j : Nat) (h : i < n) (hj : j < n) : (rw' (ptab p c m LL n k q) i).getD j 0 = if i < k ∨ (i = k ∧ j < q) then pw p c (tbN m LL i j) else (tbN m LL i j : Int) := by
  rw [ptab_row _ _ _ _ _ _ _ _ h]
  simp [List.getD_eq_getElem?_getD, hj]
theorem tab_ext (n : Nat) {A B : List (List Int)} (ha : A.length = n) (hb : B.length = n) (la : ∀ i, i < n → (rw' A i).length = n) (lb : ∀ i, i < n → (rw' B i).length = n) (h : ∀ i, i < n → ∀ j, j < n → (rw' A i).getD j 0 = (rw' B i).getD j 0) : A = B :=
  rows_ext n (ha.trans hb.symm) (fun i hi => la i (by omega)) (fun i hi => lb i (by omega)) (fun i hi j hj => h i (by omega) j hj)
theorem ptab_rl (p c : Int) (m : Nat) (LL : List (List UInt8)) (n k q i : Nat) (h : i < n) : (rw' (ptab p c m LL n k q) i).length = n := by
  rw [ptab_row _ _ _ _ _ _ _ _ h]; simp
theorem ptab_next (p c : Int) (m : Nat) (LL : List (List UInt8)) (n k : Nat) : ptab p c m LL n k n = ptab p c m LL n (k + 1) 0 :=
  tab_ext n (ptab_len _ _ _ _ _ _ _) (ptab_len _ _ _ _ _ _ _) (fun i hi => ptab_rl _ _ _ _ _ _ _ i hi) (fun i hi => ptab_rl _ _ _ _ _ _ _ i hi) (fun i hi j hj => by
    rw [ptab_get _ _ _ _ _ _ _ _ _ hi hj, ptab_get _ _ _ _ _ _ _ _ _ hi hj]
    by_cases h : i < k + 1
    · rw [if_pos (by omega), if_pos (by omega)]
    · rw [if_neg (by omega), if_neg (by omega)])
theorem ptab_end (p c : Int) (m : Nat) (LL : List (List UInt8)) (n : Nat) : ptab p c m LL n n 0 = pwT p c m LL n :=
  tab_ext n (ptab_len _ _ _ _ _ _ _) (pwT_len _ _ _ _ _) (fun i hi => ptab_rl _ _ _ _ _ _ _ i hi) (fun i hi => by rw [pwT_row _ _ _ _ _ _ hi]; simp) (fun i hi j hj => by
    rw [ptab_get _ _ _ _ _ _ _ _ _ hi hj, pwT_get _ _ _ _ _ _ _ hi hj, if_pos (by omega)])
theorem ptab_step (p c : Int) (m : Nat) (LL : List (List UInt8)) (n k q : Nat) (hk : k < n) (hq : q < n) : ptab p c m LL n k (q + 1) = (ptab p c m LL n k q).set k ((rw' (ptab p c m LL n k q) k).set q (pw p c (tbN m LL k q))) := by
  have hl : k < (ptab p c m LL n k q).length := by rw [ptab_len]; exact hk
  refine tab_ext n (ptab_len _ _ _ _ _ _ _) (by rw [List.length_set, ptab_len]) (fun i hi => ptab_rl _ _ _ _ _ _ _ i hi) (fun i hi => ?_) (fun i hi j hj => ?_)
  · rw [rw'_set _ _ _ _ hl]
    split
    · rw [List.length_set]; exact ptab_rl _ _ _ _ _ _ _ k hk
    · exact ptab_rl _ _ _ _ _ _ _ i hi
  · rw [ptab_get _ _ _ _ _ _ _ _ _ hi hj, rw'_set _ _ _ _ hl]
    by_cases e : i = k
    · subst e
      rw [if_pos rfl, getD_set _ _ _ _ (by rw [ptab_rl _ _ _ _ _ _ _ _ hi]; exact hq), ptab_get _ _ _ _ _ _ _ _ _ hi hj]
      by_cases e2 : j = q
      · subst e2; rw [if_pos rfl, if_pos (by omega)]
      · rw [if_neg e2]
        by_cases h : j < q
        · rw [if_pos (by omega), if_pos (by omega)]
        · rw [if_neg (by omega), if_neg (by omega)]
    · rw [if_neg e, ptab_get _ _ _ _ _ _ _ _ _ hi hj]
      by_cases h : i < k
      · rw [if_pos (by omega), if_pos (by omega)]
      · rw [if_neg (by omega), if_neg (by omega)]
theorem Tbm.cellset {w : World} {g2 N n : Nat} {hs : List (Nat × Nat)} {R : List (List Int)} (h : Tbm w g2 N n hs R) (hd : ∀ i j, i < N → j < N → i ≠ j → (hs.getD i (0, 0)).1 ≠ (hs.getD j (0, 0)).1) (i q : Nat) (x : Int) (hi : i < N) (hq : q < n) :
    Tbm (w.setCell ⟨(hs.getD i (0, 0)).1, q, none⟩ (.int .i64 x)) g2 N n hs (R.set i ((rw' R i).set q x)) := by
  have hR : i < R.length := by rw [h.lr]; exact hi
  obtain ⟨cs, a, b, c⟩ := h.mem
  obtain ⟨sp, o⟩ := h.row i hi
  refine ⟨h.lo, by rw [List.length_set]; exact h.lr, fun k hk => ?_, ⟨cs, a.other (fun e => Own.neTy a o (by decide) e.symm) _, b, c⟩, fun k hk => ?_⟩
  · rw [rw'_set _ _ _ _ hR]
    split
    · rw [List.length_set]; exact h.len i hi
    · exact h.len k hk
  · rw [rw'_set _ _ _ _ hR]
    by_cases e : k = i
    · subst e
      rw [if_pos rfl]
      have := o.set q (.int .i64 x)
      rw [scells_set _ _ _ _ (by rw [h.len k hk]; exact hq)] at this
      exact ⟨sp, this⟩
    · rw [if_neg e]
      obtain ⟨sp', o'⟩ := h.row k hk
      exact ⟨sp', o'.other (fun x => hd i k hi hk (fun y => e y.symm) x) _⟩
/-- Where the rows lie. -/
def hsOf (vs : List Value) : List (Nat × Nat) := vs.map (fun v => match v with | .slice (some a) _ c => (a.block, c) | _ => (0, 0))
theorem hsOf_get {vs : List Value} {i g n c : Nat} (h : vs[i]? = some (.slice (some ⟨g, 0, none⟩) n c)) : (hsOf vs).getD i (0, 0) = (g, c) := by
  simp [hsOf, List.getD_eq_getElem?_getD, h]
theorem tbm_of {w : World} {B m n : Nat} {LL : List (List UInt8)} {v : Value} {vs : List Value} (p c : Int) (hR : Rws w B v vs) (hl : vs.length = n) (h0 : 1 ≤ n) (hT : RwT w B m LL n vs n) (hD : Dst vs) :
    ∃ g2 cap, v = .slice (some ⟨g2, 0, none⟩) n cap ∧ B ≤ g2 ∧ Tbm w g2 n n (hsOf vs) (ptab p c m LL n 0 0) ∧ (∀ i, i < n → B ≤ ((hsOf vs).getD i (0, 0)).1) ∧ ∀ i j, i < n → j < n → i ≠ j → ((hsOf vs).getD i (0, 0)).1 ≠ ((hsOf vs).getD j (0, 0)).1 := by
  obtain ⟨_, ⟨rfl, hv⟩ | ⟨g, cap, cur, hv, hg, hh, hn, hcap, hsz, htake⟩⟩ := hR
  · exfalso
    have : vs = [] := List.length_eq_zero_iff.1 hv
    subst this
    simp at hl
    omega
  · have ht : cur.toList.take vs.length = vs := by simpa using htake
    have hcur : ∀ i, i < n → cur[i]? = vs[i]? := fun i hi => by
      have e : (cur.toList.take vs.length)[i]? = vs[i]? := by rw [ht]
      rw [List.getElem?_take_of_lt (by omega)] at e
      simpa using e
    refine ⟨g, cap, by rw [hv, hl], hg, ⟨by simp [hsOf, hl], ptab_len _ _ _ _ _ _ _, fun i hi => ptab_rl _ _ _ _ _ _ _ i hi, ⟨cur, hh, by simp at hsz; omega, fun i hi => ?_⟩, fun i hi => ?_⟩, fun i hi => ?_, fun i j hi hj hij => ?_⟩
    · obtain ⟨ga, ca, h1, h2⟩ := hT i hi
      rw [hcur i hi, hsOf_get h1, h1]
    · obtain ⟨ga, ca, h1, h2⟩ := hT i hi
      have e : rw' (ptab p c m LL n 0 0) i = rwN m LL i n := by
        refine list_ext0 (by rw [ptab_rl _ _ _ _ _ _ _ _ hi, rwN_len]) (fun j hj => ?_)
        rw [ptab_rl _ _ _ _ _ _ _ _ hi] at hj
        rw [ptab_get _ _ _ _ _ _ _ _ _ hi hj, if_neg (by omega), rwN_get _ _ _ _ _ hj]
      rw [hsOf_get h1, e]
      exact h2.row
    · obtain ⟨ga, ca, h1, h2⟩ := hT i hi
      rw [hsOf_get h1]
      exact h2.1
    · obtain ⟨ga, ca, h1, h2⟩ := hT i hi
      obtain ⟨gb, cb, h3, h4⟩ := hT j hj
      rw [hsOf_get h1, hsOf_get h3]
      rcases Nat.lt_or_gt_of_ne hij with h | h
      · exact hD i j ga ca gb cb n n h h1 h3
      · exact (hD j i gb cb ga ca n n h h3 h1).symm
set_option maxRecDepth 100000 in
set_option maxHeartbeats 4000000 in
theorem cdS_ok (p c : Int) (hp : primeB p = true) (c0 : 0 ≤ c) (c1 : c < p) (m : Nat) (h1 : 1 ≤ m) (h4 : m ≤ 4) (n : Nat) (hn : (allH (2 * m) 0).length = n) (h0 : 1 ≤ n) (hn2 : n ≤ 1000) (w : World) :
    Calls Try.prog 6 #[.int .i64 p, .int .i64 c, .int .i64 m] w fun e w' => e = .returned (.tuple #[.int .i64 (resM p n n (pwT p c m (allH (2 * m) 0) n) 1 % p), .int .i64 0]) ∧ Below w.heap.size w w' := by
  obtain ⟨p2, p97⟩ := primeB_two hp
  have hmd := Lib.hid (fun w => (numS_any p c w (by omega)).mono fun e w' h => (show e = .returned (.bool true) ∧ w = w' from ⟨by rw [h.1, hp, show decide (0 ≤ c ∧ c < p) = true by simp; omega]; rfl, h.2.symm⟩))
  have har := Lib.hid (fun w => inS_t (m : Int) 1 4 w (by omega) (by omega))
  have htb := Lib.hid (fun w => (tbU_ok m h1 (by omega) n hn w).mono fun e w' (h : ∃ v vs, e = .returned v ∧ Rws w' w.heap.size v vs ∧ vs.length = n ∧ RwT w' w.heap.size m (allH (2 * m) 0) n vs n ∧ Dst vs ∧ Below w.heap.size w w') => show ∃ g2 cap hs, e = .returned (.slice (some ⟨g2, 0, none⟩) n cap) ∧ w.heap.size ≤ g2 ∧ Tbm w' g2 n n hs (ptab p c m (allH (2 * m) 0) n 0 0) ∧ (∀ i, i < n → w.heap.size ≤ (hs.getD i (0, 0)).1) ∧ (∀ i j, i < n → j < n → i ≠ j → (hs.getD i (0, 0)).1 ≠ (hs.getD j (0, 0)).1) ∧ Below w.heap.size w w' from by
    obtain ⟨v, vs, q1, q2, q3, q4, q5, q6⟩ := h
    obtain ⟨g2, cap, r1, r2, r3, r4, r5⟩ := tbm_of p c q2 q3 h0 q4 q5
    exact ⟨g2, cap, _, by rw [q1, r1], r2, r3, r4, r5, q6⟩)
  have htbd := Lib.hid (show ∀ i j, i < n → j < n → tbN m (allH (2 * m) 0) i j ≤ 1000 from fun i j hi hj => by have := tbN_bd m h1 (by omega) i j (by rw [hn]; exact hi) (by rw [hn]; exact hj); omega)
  have hok := Lib.hid (pwT_ok p c m (allH (2 * m) 0) n p2)
  have hpr := Lib.hid hp
  have hpw := Lib.hid (fun (k : Nat) w1 (hk : k ≤ 1000) => powS_any p c k w1 p2 p97 c0 c1 hk)
  generalize allH (2 * m) 0 = LL at *
  clear hp hn
  go_enter Try.func6, Try.ntmps6
  go_wp2_with (first
    | (go_at_call 17; ((with_reducible refine (hmd.out _).mono ?_); rintro e w0 ⟨rfl, rfl⟩))
    | (go_at_call 18; ((with_reducible refine (har.out _).mono ?_); rintro e wa ⟨rfl, rfl⟩))
    | (go_at_call 19; ((with_reducible refine (htb.out _).mono ?_); rintro e w1 ⟨g2, cap, hs, rfl, hg2, hT1, hgs, hds, hB1⟩)))
  have HGS := Lib.hid hgs
  have HDS := Lib.hid hds
  clear hgs hds htb hmd har
  go_loopw [9] (fun i wr => ∃ k : Nat, k ≤ n ∧ i = .int .i64 k ∧ Tbm wr g2 n n hs (ptab p c m LL n k 0) ∧ Below w.heap.size w wr) (fun i _ => ((n : Int) - intOf i).toNat)
  case atStart => exact ⟨0, Nat.zero_le _, rfl, hT1, hB1⟩
  case round =>
    clear hT1 hB1
    obtain ⟨k, hk, rfl, hT, hB⟩ := hrel
    by_cases hlt : k < n
    · have kI : (k : Int) < (n : Int) := by omega
      have c2 := hT.head k hlt
      obtain ⟨⟨gk, ck⟩, hgk⟩ : ∃ y, hs.getD k (0, 0) = y := ⟨_, rfl⟩
      rw [hgk] at c2
      dsimp only at c2
      have hgk' := Lib.hid hgk
      clear hgk
      go_wp2
      go_loopw [11] (fun j wj => ∃ q : Nat, q ≤ n ∧ j = .int .i64 q ∧ Tbm wj g2 n n hs (ptab p c m LL n k q) ∧ Below w.heap.size w wj) (fun j _ => ((n : Int) - intOf j).toNat)
      case atStart => exact ⟨0, Nat.zero_le _, rfl, hT, hB⟩
      case round =>
        clear hT hB c2
        obtain ⟨q, hq, rfl, hT, hB⟩ := hrel
        by_cases hqn : q < n
        · have qI : (q : Int) < (n : Int) := by omega
          have c3 := hT.num k q hlt hqn
          rw [hgk'.out, ptab_get _ _ _ _ _ _ _ _ _ hlt hqn, if_neg (by omega)] at c3
          dsimp only at c3
          have f3 : wr.frozen? ⟨gk, q, none⟩ = false := by
            obtain ⟨sp, o⟩ := hT.row k hlt
            rw [hgk'.out] at o
            exact o.free q
          have hst := ptab_step p c m LL n k q hlt hqn
          have hT2 := hT.cellset HDS.out k q (pw p c (tbN m LL k q)) hlt hqn
          rw [← hst, hgk'.out] at hT2
          dsimp only at hT2
          have hgb := HGS.out k hlt
          rw [hgk'.out] at hgb
          dsimp only at hgb
          have hpk := Lib.hid (fun w => hpw.out (tbN m LL k q) w (htbd.out k q hlt hqn))
          obtain ⟨t, ht⟩ : ∃ t, tbN m LL k q = t := ⟨_, rfl⟩
          rw [ht] at c3 hpk hT2
          obtain ⟨x, hx⟩ : ∃ x, pw p c t = x := ⟨_, rfl⟩
          rw [hx] at hpk hT2
          have K1 := Lib.hid hT2
          have K3 := Lib.hid (hB.setCell (p := ⟨gk, q, none⟩) hgb (.int .i64 x))
          clear hT hT2 hB hst ht hx
          go_wp2_with (first
            | (go_at_call 20; ((with_reducible refine (hpk.out _).mono ?_); rintro e w4 ⟨rfl, rfl⟩)))
          go_roundw
          case rel => exact ⟨q + 1, by omega, by go_num, K1.out, K3.out⟩
          case measure => simp [intOf]; omega
        · have e : n = q := by omega
          subst e
          have K1 := Lib.hid (show Tbm wr g2 n n hs (ptab p c m LL n (k + 1) 0) by rw [← ptab_next]; exact hT)
          clear hT
          go_wp2
          go_roundw
          case rel => exact ⟨k + 1, by omega, by go_num, K1.out, hB⟩
          case measure => simp [intOf]; omega
    · have e : n = k := by omega
      subst e
      rw [ptab_end] at hT
      have hdt := Lib.hid (echS_any p hpr.out g2 n cap hn2 w.heap.size hg2 hs _ hok.out wr hT hB.size)
      obtain ⟨A, hA⟩ : ∃ A, resM p n n (pwT p c m LL n) 1 % p = A := ⟨_, rfl⟩
      rw [hA] at hdt
      have hA' := Lib.hid hA
      have K4 := Lib.hid hB
      clear hB hT hok hA htbd
      go_wp2_with (first
        | (go_at_call 21; ((with_reducible refine (hdt.out).mono ?_); rintro e w5 ⟨rk, rfl, hB5⟩)))
      go_ret2
      exact ⟨by rw [hA'.out]; rfl, K4.out.trans hB5⟩
theorem cdS_bad (p c m : Int) (hr : -9223372036854775808 ≤ p ∧ p ≤ 9223372036854775807) (h : (primeB p && decide (0 ≤ c ∧ c < p) && decide (1 ≤ m ∧ m ≤ 4)) = false) (w : World) : Calls Try.prog 6 #[.int .i64 p, .int .i64 c, .int .i64 m] w fun e w' => e = .returned (.tuple #[.int .i64 0, .int .i64 2]) ∧ Below w.heap.size w w' := by
  have hmd := Lib.hid (fun w => (numS_any p c w hr).mono fun e w' h => (show e = .returned (.bool (primeB p && decide (0 ≤ c ∧ c < p))) ∧ w = w' from ⟨h.1, h.2.symm⟩))
  cases hm : (primeB p && decide (0 ≤ c ∧ c < p)) with
  | false =>
    rw [hm] at hmd
    clear h hm hr
    go_enter Try.func6, Try.ntmps6
    go_wp2_with (first
      | (go_at_call 17; ((with_reducible refine (hmd.out _).mono ?_); rintro e w0 ⟨rfl, rfl⟩)))
    go_ret2
    exact ⟨rfl, Below.refl _ _⟩
  | true =>
    rw [hm] at hmd h
    rw [Bool.true_and, decide_eq_false_iff_not] at h
    have har := Lib.hid (fun w => inS_f m 1 4 w (by omega))
    clear h hm hr
    go_enter Try.func6, Try.ntmps6
    go_wp2_with (first
      | (go_at_call 17; ((with_reducible refine (hmd.out _).mono ?_); rintro e w0 ⟨rfl, rfl⟩))
      | (go_at_call 18; ((with_reducible refine (har.out _).mono ?_); rintro e wa ⟨rfl, rfl⟩)))
    go_ret2
    exact ⟨rfl, Below.refl _ _⟩
theorem cd_both (p c m : Int) (hr : -9223372036854775808 ≤ p ∧ p ≤ 9223372036854775807) : ∃ x y : Int, (∀ w, Calls Try.prog 6 #[.int .i64 p, .int .i64 c, .int .i64 m] w fun e w' => e = .returned (.tuple #[.int .i64 x, .int .i64 y]) ∧ Below w.heap.size w w')
    ∧ (∀ w, Calls Try.prog 7 #[.int .i64 p, .int .i64 c, .int .i64 m] w fun e w' => e = .returned (.tuple #[.int .i64 x, .int .i64 y]) ∧ Below w.heap.size w w') := by
  cases h : (primeB p && decide (0 ≤ c ∧ c < p) && decide (1 ≤ m ∧ m ≤ 4)) with
  | false => exact ⟨_, _, fun w => cdS_bad p c m hr h w, fun w => cdI_bad p c m h w⟩
  | true =>
    simp only [Bool.and_eq_true, decide_eq_true_eq] at h
    obtain ⟨⟨hp, c0, c1⟩, m1, m4⟩ := h
    obtain ⟨M, rfl⟩ : ∃ M : Nat, m = M := ⟨m.toNat, by omega⟩
    have h1 : 1 ≤ M := by omega
    have h4 : M ≤ 4 := by omega
    obtain ⟨p2, _⟩ := primeB_two hp
    have hpos := allH_pos M h1 (by omega)
    have hmx := allH_len12 M h1 (by omega)
    refine ⟨_, _, fun w => cdS_ok p c hp c0 c1 M h1 h4 _ rfl hpos (by omega) w, fun w => (cdI_ok p c hp c0 c1 M h1 h4 _ rfl hpos (by omega) w).mono fun e w' h => ⟨?_, h.2⟩⟩
    generalize (allH (2 * M) 0).length = n at *
    have hb := resM_bd p n p2 n (pwT p c M (allH (2 * M) 0) n) 1 (by omega) (by omega)
    rw [h.1, res_same hp n _ 1 (Nat.le_refl _) (pwT_len _ _ _ _ _) (by rw [Nat.sub_self]; exact pwT_ok p c M (allH (2 * M) 0) n p2), Int.emod_eq_of_lt hb.1 hb.2]
set_option maxRecDepth 100000 in
theorem cd_law (p c m : Int) (W : World) (hr : -9223372036854775808 ≤ p ∧ p ≤ 9223372036854775807) : Calls Try.prog 3 #[.int .i64 p, .int .i64 c, .int .i64 m] W fun e w' => e = .returned (.bool true) ∧ Below W.heap.size W w' := by
  obtain ⟨x, y, hS0, hI0⟩ := cd_both p c m hr
  have hS := Lib.hid hS0
  have hI := Lib.hid hI0
  clear hS0 hI0 hr
  go_enter Try.func3, Try.ntmps3
  go_wp2_with (first
    | (go_at_call 6; ((with_reducible refine (hS.out _).mono ?_); rintro e w1 ⟨rfl, hB1⟩))
    | (go_at_call 7; ((with_reducible refine (hI.out _).mono ?_); rintro e w2 ⟨rfl, hB2⟩)))
  go_ret
  exact ⟨rfl, hB1.trans (hB2.mono hB1.size)⟩
end Go.Proofs.Ytlgdeciikliihaa
