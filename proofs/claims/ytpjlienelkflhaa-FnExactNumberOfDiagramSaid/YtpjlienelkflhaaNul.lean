/- NumberOfDiagram, and the law. -/
import Derived.Test.YtpjlienelkflhaaNmp
namespace Go.Proofs.Ytpjlienelkflhaa
open Go.RowKit Go.Lib
open Go.Maps (Keyed)
set_option linter.unusedVariables false
set_option linter.unusedSimpArgs false
set_option maxRecDepth 100000 in
set_option maxHeartbeats 2000000 in
theorem numI_ok (N K : Nat) (ms : List Int) (hms : ms.length = 16) (hb : Bytes ms) (hd : isD N ms = true) (hK : (dts (2 * N) 0 [])[K]? = some (textS N ms).data.toList) (w : World) :
    Calls Try.prog 18 #[.agg (dcells N ms)] w fun e w' => e = .returned (.tuple #[.int .i64 K, .int .i64 0]) ∧ Below w.heap.size w w' := by
  have hn := net_of N ms hms hb hd
  obtain ⟨h1, h8⟩ := hn.bd
  have hl := Lib.hid hms
  have hi := Lib.hid (fun w => isI_any N ms hms hb w)
  rw [hd] at hi
  have hnb := Lib.hid (fun w => nbI_any N (by omega) (by omega) w)
  unfold NbPost at hnb
  have hp : parse (textS N ms).data.toList = some ((N : Int), ms) := by
    unfold isD at hd
    rw [Bool.and_eq_true, decide_eq_true_iff, decide_eq_true_iff] at hd
    exact hd.2
  have hat : (allD N).getD K (0, zeros) = ((N : Int), ms) := by
    rw [allD_at N K _ hK]; unfold pD; rw [hp]
  have hKl : K < (allD N).length := by
    have := (List.getElem?_eq_some_iff.1 hK).1
    unfold allD; rwa [List.length_map]
  have hky := kyD_of (allD_get N (by omega) (by omega) K hKl) (by omega)
  have hmp := fun z => mpD_at (allD N) K (allD N).length z hKl (keyedD.key hky) (fun i h1' h2' => kyD_ne N (by omega) (by omega) K i hKl h2' (by omega))
  rw [hat] at hky hmp
  obtain ⟨kl, hkl⟩ : ∃ kl, kyD ((N : Int), ms) = kl := ⟨_, rfl⟩
  rw [hkl] at hky hmp
  obtain ⟨l, hll⟩ : ∃ l, (allD N).length = l := ⟨_, rfl⟩
  obtain ⟨M, hM⟩ : ∃ M, mpD (allD N) l = M := ⟨_, rfl⟩
  rw [hll, hM] at hnb hmp
  have hmp' := Lib.hid hmp
  obtain ⟨n, hnN⟩ : ∃ n : Int, (N : Int) = n := ⟨_, rfl⟩
  rw [hnN] at hi hnb hky ⊢
  have hky' := Lib.hid (show keyOf Try.prog 30 (.agg (dcells n ms)) = some kl from hky)
  clear hms hb hd hn hp hat hK hKl hky hmp hkl hll hM
  go_enter Try.func18, Try.ntmps18
  go_upto_region 3 with (first
    | (refine wpList_load_row rfl 30 _ rfl _ rfl 30 _ (0, 0) _ (Own.new w _ _) Try.underlying30 rfl (row26 (d17 _ _ (hl.out))) ?_)
    | (go_at_call 36; ((with_reducible refine (hi.out _).mono ?_); rintro e w1 ⟨rfl, hB1⟩)))
  refine gen_wld (fun x => Own x w.heap.size (dcells n ms) 30 ∧ Below w.heap.size w x) ⟨(Own.new w _ _).below hB1 (by simp), ((Below.refl _ w).alloc (Nat.le_refl _) _).trans (hB1.mono (by simp))⟩ ?_
  clear hB1
  rintro x ⟨hO, hB⟩
  refine wp_region_st (fun x => Own x w.heap.size (dcells n ms) 30) [(true, 0), (true, 1), (true, 3), (false, 2)] 4 (by kernel_rfl) (by kernel_rfl) (hO.drewN 1) ?_
  have hOd : Own { x with drawn := x.drawn + 1 } w.heap.size (dcells n ms) 30 := hO
  have hBd : Below w.heap.size w { x with drawn := x.drawn + 1 } := hB.drew
  clear hO hB
  generalize ({ x with drawn := x.drawn + 1 } : World) = w2 at *
  simp only [List.map_cons, List.map_nil, opS'_mk, opN_zero, opN_succ, List.drop_succ_cons, List.drop_zero]
  (apply wpSt_read; · (intro wd hS K2 hK2; clear hS; go_simp; exact hK2))
  (apply wpSt_read; · (intro wd hS K2 hK2; have d0 := hS.cell 0; rw [dcells_zero] at d0; clear hS; go_simp; exact hK2))
  (apply wpSt_read; · (intro wd hS K2 hK2; rw [if_pos (by rfl)]; refine still_load_row 30 (.tmp 1) rfl w.heap.size rfl 30 (dcells n ms) _ hS Try.underlying30 rfl (row26 (d17 _ _ hl.out)) ?_; exact hK2))
  refine wpSt_keep (fun K2 hK2 => ?_)
  go_wp2_with (first
    | (go_at_call 37; ((with_reducible refine (hnb.out w2).mono ?_); rintro e w3 ⟨b, rfl, hM3, hB3⟩)))
  refine hK2 _ _ (hOd.below hB3 hOd.lt) rfl ?_
  clear hK2 K2
  have b3 : Below w.heap.size w w3 := hBd.trans (hB3.mono hBd.size)
  clear hOd hBd hB3
  refine wpSt_nil ?_
  go_wp2_with (first
    | (at_lookup; refine wpList_lookup_own_int _ rfl _ _ 55 rfl 30 2 .i64 keyedD Try.underlying55 Try.underlying2 (by kernel_rfl) b _ _ rfl hM3 _ kl rfl hky'.out ?_; intro c hc hw; have hcK : c = K := (by rw [hmp'.out] at hc; injection hc with hc; injection hc with _ hc; exact hc.symm); subst hcK))
  go_ret2
  exact ⟨rfl, b3⟩
theorem numI_bad (n : Int) (ms : List Int) (hms : ms.length = 16) (hb : Bytes ms) (hd : isD n ms = false) (w : World) :
    Calls Try.prog 18 #[.agg (dcells n ms)] w fun e w' => e = .returned (.tuple #[.int .i64 0, .int .i64 1]) ∧ Below w.heap.size w w' := by
  have hl := Lib.hid hms
  have hi := Lib.hid (fun w => isI_any n ms hms hb w)
  rw [hd] at hi
  clear hms hb hd
  go_enter Try.func18, Try.ntmps18
  go_wp2_with (first
    | (refine wpList_load_row rfl 30 _ rfl _ rfl 30 _ (0, 0) _ (Own.new w _ _) Try.underlying30 rfl (row26 (d17 _ _ (hl.out))) ?_)
    | (go_at_call 36; ((with_reducible refine (hi.out _).mono ?_); rintro e w1 ⟨rfl, hB1⟩)))
  go_ret2
  exact ⟨rfl, ((Below.refl _ w).alloc (Nat.le_refl _) _).trans (hB1.mono (by simp))⟩
set_option maxRecDepth 100000 in
theorem NumberOfDiagram_walk (n : Int) (ms : List Int) (hms : ms.length = 16) (w : World) (a c : Int)
    (hS : ∀ w, Calls Try.prog 16 #[.agg (dcells n ms)] w fun e w' => e = .returned (.tuple #[.int .i64 a, .int .i64 c]) ∧ Below w.heap.size w w')
    (hI : ∀ w, Calls Try.prog 18 #[.agg (dcells n ms)] w fun e w' => e = .returned (.tuple #[.int .i64 a, .int .i64 c]) ∧ Below w.heap.size w w') :
    Calls Try.prog 5 #[.agg (dcells n ms)] w fun e w' => e = .returned (.bool true) ∧ Below w.heap.size w w' := by
  have hl := Lib.hid hms
  have hS' := Lib.hid hS
  have hI' := Lib.hid hI
  clear hms hS hI
  go_enter Try.func5, Try.ntmps5
  go_wp2_with (first
    | (refine wpList_load_row rfl 35 _ rfl _ rfl 35 _ (0, 0) _ (Own.new _ _ _) Try.underlying35 rfl (row50 (d17 _ _ (hl.out))) ?_)
    | (go_at_call 16; ((with_reducible refine (hS'.out _).mono ?_); rintro e w2 ⟨rfl, hB2⟩))
    | (go_at_call 18; ((with_reducible refine (hI'.out _).mono ?_); rintro e w4 ⟨rfl, hB4⟩))
    | (go_at_call 17; ((with_reducible refine (toD_any n ms hl.out w2).mono ?_); rintro e w3 ⟨rfl, hB3⟩))
    | (go_at_call 17; ((with_reducible refine (toD_any n ms hl.out _).mono ?_); rintro e w1 ⟨rfl, hB1⟩))
    | (refine wpList_load_row rfl 35 _ rfl _ rfl 35 _ (0, 0) _ (((Own.new _ _ _).below hB1 (by simp)).below hB2 (Nat.lt_of_lt_of_le (by simp) hB1.size)) Try.underlying35 rfl (row50 (d17 _ _ (hl.out))) ?_))
  go_ret
  have b0 : Below w.heap.size w (w.alloc (.cells (dcells n ms) 35)) := (Below.refl _ _).alloc (Nat.le_refl _) _
  have b1 := b0.trans (hB1.mono b0.size)
  have b2 := b1.trans (hB2.mono b1.size)
  have b3 := b2.trans (hB3.mono b2.size)
  exact ⟨rfl, b3.trans (hB4.mono b3.size)⟩
theorem nud_law (n : Int) (ms : List Int) (hms : ms.length = 16) (hb : Bytes ms) (w : World) :
    Calls Try.prog 5 #[.agg (dcells n ms)] w fun e w' => e = .returned (.bool true) ∧ Below w.heap.size w w' := by
  cases hd : isD n ms with
  | true =>
    have hn := net_of n ms hms hb hd
    obtain ⟨N, rfl⟩ : ∃ N : Nat, n = N := ⟨n.toNat, by have := hn.bd; omega⟩
    obtain ⟨K, hK⟩ := List.getElem?_of_mem (text_in N ms hn _ rfl).1
    exact NumberOfDiagram_walk N ms hms w K 0 (fun w => numS_ok N K ms hms hb hd hK w) (fun w => numI_ok N K ms hms hb hd hK w)
  | false => exact NumberOfDiagram_walk n ms hms w 0 1 (fun w => numS_bad n ms hms hb hd w) (fun w => numI_bad n ms hms hb hd w)
end Go.Proofs.Ytpjlienelkflhaa
