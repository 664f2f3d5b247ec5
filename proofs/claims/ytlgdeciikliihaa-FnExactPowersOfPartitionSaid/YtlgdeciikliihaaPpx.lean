/- The place of a partition among the powers of one: slices.Index. -/
import Derived.Test.YtlgdeciikliihaaPpm
import Derived.Test.YtlgdeciikliihaaRwp
import Derived.Test.YtlgdeciikliihaaOnS
import Derived.Deep.CutRange
namespace Go.Proofs.Ytlgdeciikliihaa
open Go.RowKit Go.Lib
set_option linter.unusedVariables false
set_option linter.unusedSimpArgs false
theorem still_load_q {P : Program} {o : Oper} {a : Act} {w : World} {K : Act → Prop} (ty : TypeId) (x : Operand) (ho : o.op = .load ty x)
    (ad : Addr) (hx : a.eval x = .pointer (some ad)) (cs : List Value) (d : TypeDesc) (hc : ∀ j v, cs[j]? = some v → w.cell? (ad.add j) = some v)
    (hu : P.underlying ty = some d) (hd : d.isRow = true) (hi : (P.info? ty).map (·.size) = some cs.length)
    (h : K (a.put o.dst (.agg cs.toArray))) : o.still P a w K := by
  have hv : (loadVar ty ad).run P w = .ok (.agg cs.toArray) w := by
    have hl : (loadCells ad cs.length).run P w = .ok cs.toArray w := run_loadCells_list (P := P) w ad cs hc
    cases hq : P.info? ty with
    | none => simp [hq] at hi
    | some i =>
      have hs : i.size = cs.length := by simpa [hq] using hi
      have hagg : (isAgg ty).run P w = .ok true w := by
        unfold isAgg
        rw [Sem.run_bind, run_underlying hu w]
        cases d <;> simp_all
      simp [loadVar, Sem.run_bind, hagg, sizeOf, typeInfo, hq, hs, hl]
  unfold Oper.still execOp
  simp only [ho, hx, Instr.loadAt, Instr.sureAddr, Sem.run_bind, Sem.run_pure, Result.andThen_ok, hv]
  rw [Oper.stillUpon_value]; exact h
/-- The first m powers. -/
def pls (N : Nat) (A : List Int) (m : Nat) : List PtR := (List.range m).map (fun i => ((N : Int), pwP N A i))
theorem pls_len (N : Nat) (A : List Int) (m : Nat) : (pls N A m).length = m := by simp [pls]
theorem pls_succ (N : Nat) (A : List Int) (m : Nat) : pls N A (m + 1) = pls N A m ++ [((N : Int), pwP N A m)] := by simp [pls, List.range_succ]
theorem pls_get (N : Nat) (A : List Int) (m k : Nat) (h : k < m) : (pls N A m).getD k (0, zer8) = ((N : Int), pwP N A k) := by
  simp [pls, List.getD_eq_getElem?_getD, h]
theorem pls_8 (N : Nat) (A : List Int) (h8 : A.length = 8) (h4 : N ≤ 4) (m : Nat) : LP8 (pls N A m) := by
  intro d hd
  unfold pls at hd
  rw [List.mem_map] at hd
  obtain ⟨i, _, rfl⟩ := hd
  exact pwP_len N A h8 h4 i
theorem pls_read {w : World} {base g cap N : Nat} {A : List Int} {m : Nat} (h : RowQ w base (.slice (some ⟨g, 0, none⟩) m cap) (pls N A m)) (h8 : A.length = 8) (h4 : N ≤ 4) (k : Nat) (hk : k < m) :
    ∀ j u, (dcells N (pwP N A k)).toList[j]? = some u → w.cell? ((⟨g, k * 9, none⟩ : Addr).add j) = some u := by
  have hl := pls_len N A m
  have h' : RowQ w base (.slice (some ⟨g, 0, none⟩) (pls N A m).length cap) (pls N A m) := by rw [hl]; exact h
  have := h'.read (pls_8 N A h8 h4 m) k (by rw [hl]; exact hk)
  rw [pls_get _ _ _ _ hk] at this
  exact this
set_option maxRecDepth 100000 in
set_option maxHeartbeats 4000000 in
theorem idxQ_any (N : Nat) (A : List Int) (h8 : A.length = 8) (h4 : N ≤ 4) (t : List Int) (ht : t.length = 8) (m r base g cap : Nat) (hm : m ≤ 20000000) (hr : r ≤ m) (hmin : ∀ j, j < r → pwP N A j ≠ t) (hf : r < m → pwP N A r = t) (w : World)
    (hR : RowQ w base (.slice (some ⟨g, 0, none⟩) m cap) (pls N A m)) :
    Calls Try.prog 32 #[.slice (some ⟨g, 0, none⟩) m cap, .agg (dcells N t)] w fun e w' => e = .returned (.int .i64 (if r < m then (r : Int) else -1)) ∧ Below w.heap.size w w' := by
  have hl := Lib.hid ht
  have hrd := Lib.hid (fun (x : World) (h : RowQ x base (.slice (some ⟨g, 0, none⟩) m cap) (pls N A m)) k hk => pls_read h h8 h4 k hk)
  have hE := Lib.hid (fun k w => eqParts N N t (pwP N A k) ht (pwP_len N A h8 h4 k) w)
  have hlk := Lib.hid (pwP_len N A h8 h4)
  have c0t := dcells_zero (N : Int) t
  have hmin' := Lib.hid hmin
  have hf' := Lib.hid hf
  obtain ⟨R, hRR⟩ : ∃ R : Int, (if r < m then (r : Int) else -1) = R := ⟨_, rfl⟩
  rw [hRR]
  have hR1 := Lib.hid (show r < m → R = r from fun h => by rw [← hRR, if_pos h])
  have hR2 := Lib.hid (show ¬ r < m → R = -1 from fun h => by rw [← hRR, if_neg h])
  clear h8 ht hmin hf hRR
  go_enter Try.func32, Try.ntmps32
  go_wp2
  have nO : Own (w.alloc (.cells (dcells N t) 31)) w.heap.size (dcells N t) 31 := Own.new _ _ _
  have nR := hR.alloc (.cells (dcells N t) 31)
  have nB : Below w.heap.size w (w.alloc (.cells (dcells N t) 31)) := (Below.refl _ w).alloc (Nat.le_refl _) _
  go_loopw [8] (fun i wr => ∃ k : Nat, k ≤ r ∧ i = .int .i64 k ∧ Own wr w.heap.size (dcells N t) 31 ∧ RowQ wr base (.slice (some ⟨g, 0, none⟩) m cap) (pls N A m) ∧ Below w.heap.size w wr) (fun i _ => ((m : Int) + 1 - intOf i).toNat)
  case atStart => exact ⟨0, by omega, rfl, nO, nR, nB⟩
  case round =>
    clear nO nR nB hR
    obtain ⟨k, hk, rfl, hO, hR, hB⟩ := hrel
    by_cases hlt : k < m
    · have kI : (k : Int) < (m : Int) := by omega
      have hrk := Lib.hid (show ∀ x : World, RowQ x base (.slice (some ⟨g, 0, none⟩) m cap) (pls N A m) → ∀ j u, (dcells N (pwP N A k)).toList[j]? = some u → x.cell? ((⟨g, k * 9, none⟩ : Addr).add j) = some u from fun x h => hrd.out x h k hlt)
      have h9 := Lib.hid (show (dcells N (pwP N A k)).toList.length = 9 from dl9 (hlk.out k))
      have hE2 := Lib.hid (hE.out k)
      have c0k := dcells_zero (N : Int) (pwP N A k)
      have hkr := Lib.hid (show k < r → t ≠ pwP N A k from fun h e => hmin'.out k h e.symm)
      have hkf := Lib.hid (show k = r → t = pwP N A k from fun h => by subst h; exact (hf'.out hlt).symm)
      obtain ⟨y, hy⟩ : ∃ y, pwP N A k = y := ⟨_, rfl⟩
      rw [hy] at hrk h9 hE2 c0k hkr hkf
      clear hy
      go_upto_region 4 with fail
      refine wp_region_st (fun x => Own x w.heap.size (dcells N t) 31 ∧ RowQ x base (.slice (some ⟨g, 0, none⟩) m cap) (pls N A m)) [(true, 0), (true, 1), (true, 2), (true, 3), (true, 4)] 5 (by kernel_rfl) (by kernel_rfl) ⟨hO.drewN 1, hR⟩ ?_
      have hOd : Own { wr with drawn := wr.drawn + 1 } w.heap.size (dcells N t) 31 := hO
      have hRd : RowQ { wr with drawn := wr.drawn + 1 } base (.slice (some ⟨g, 0, none⟩) m cap) (pls N A m) := hR
      have hBd : Below w.heap.size w { wr with drawn := wr.drawn + 1 } := hB.drew
      clear hO hR hB
      generalize ({ wr with drawn := wr.drawn + 1 } : World) = w3 at *
      simp only [List.map_cons, List.map_nil, opS'_mk, opN_zero, opN_succ, List.drop_succ_cons, List.drop_zero]
      (apply wpSt_read; · (intro wd hS K hK; rw [if_pos (by rfl)]; refine still_load_row 31 (.tmp 3) rfl w.heap.size rfl 31 (dcells N t) _ hS.1 Try.underlying31 rfl (rowP (d9 _ _ hl.out)) ?_; exact hK))
      (apply wpSt_read; · (intro wd hS K hK; clear hS; go_simp; exact hK))
      (apply wpSt_read; · (intro wd hS K hK; clear hS; go_simp; exact hK))
      (apply wpSt_read; · (intro wd hS K hK; clear hS; go_simp; exact hK))
      (apply wpSt_read; · (intro wd hS K hK; rw [if_pos (by rfl)]; refine still_load_q 31 (.tmp 14) rfl ⟨g, k * 9, none⟩ (by first | rfl | simp) (dcells N y).toList _ (hrk.out wd hS.2) Try.underlying31 rfl (by rw [h9.out]; kernel_rfl) ?_; exact hK))
      refine wpSt_nil ?_
      have hE3 := hE2.out
      by_cases hkk : k < r
      · have hd := hkr.out hkk
        simp only [decide_eq_false hd] at hE3
        clear hkr hkf hE2
        go_wp2
        go_roundw
        case rel => exact ⟨k + 1, by omega, by go_num, hOd, hRd, hBd⟩
        case measure => simp [intOf]; omega
      · have e : k = r := by omega
        have hd := hkf.out e
        subst e
        subst hd
        simp only [decide_true] at hE3
        clear hkr hkf hE2
        go_wp2
        go_ret
        exact ⟨by rw [hR1.out hlt]; rfl, hBd⟩
    · have e : k = m := by omega
      have e2 : ¬ r < m := by omega
      subst e
      clear hO hR
      go_wp2
      go_ret
      exact ⟨by rw [hR2.out e2]; rfl, hB⟩
end Go.Proofs.Ytlgdeciikliihaa
