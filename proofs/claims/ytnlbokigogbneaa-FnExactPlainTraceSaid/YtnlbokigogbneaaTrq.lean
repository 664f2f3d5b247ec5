/- WeightedTrace and PlainTrace: the program. -/
import Derived.Test.YtnlbokigogbneaaTri
namespace Go.Proofs.Ytnlbokigogbneaa
open Go.RowKit
set_option linter.unusedVariables false
/-- What both answer. -/
def wtN (p q n : Int) (ms : List Int) : Int := trI p (-rcp p q) (-q) n.toNat (fun u => entN p q (rcp p q) n ms u u) (2 ^ n.toNat) % p
def ptN (p q n : Int) (ms : List Int) : Int := trI p 1 1 n.toNat (fun u => entN p q (rcp p q) n ms u u) (2 ^ n.toNat) % p
set_option maxRecDepth 100000 in
set_option maxHeartbeats 1000000 in
theorem wtI_code (p q n : Int) (ms : List Int) (hms : ms.length = 16) (hb : Bytes ms) (w : World) (hc : codN p q n ms 6 ≠ 0) :
    Calls Try.prog 20 #[.int .i64 p, .int .i64 q, .agg (dcells n ms)] w fun e w' => e = .returned (.tuple #[.int .i64 0, .int .i64 (codN p q n ms 6)]) ∧ Below w.heap.size w w' := by
  have hl := Lib.hid hms
  have hi := Lib.hid (fun w => codI_any p q n ms 6 hms hb w)
  obtain ⟨c, hcc⟩ : ∃ c, codN p q n ms 6 = c := ⟨_, rfl⟩
  rw [hcc] at hc hi ⊢
  clear hb hcc
  go_enter Try.func20, Try.ntmps20
  go_wp2_with (first
    | (refine wpList_load_row rfl 29 _ rfl _ rfl 29 _ (0, 0) _ (Own.new _ _ _) Try.underlying29 rfl (row26 (d17 _ _ (hl.out))) ?_)
    | (go_at_call 33; ((with_reducible refine (hi.out _).mono ?_); rintro e w1 ⟨rfl, hB1⟩)))
  go_ret2
  exact ⟨rfl, ((Below.refl _ _).alloc (Nat.le_refl _) _).trans (hB1.mono (by simp))⟩
set_option maxRecDepth 100000 in
set_option maxHeartbeats 1000000 in
theorem wtI_ok (p q n : Int) (ms : List Int) (hms : ms.length = 16) (hb : Bytes ms) (w : World) (hc : codN p q n ms 6 = 0) :
    Calls Try.prog 20 #[.int .i64 p, .int .i64 q, .agg (dcells n ms)] w fun e w' => e = .returned (.tuple #[.int .i64 (wtN p q n ms), .int .i64 0]) ∧ Below w.heap.size w w' := by
  have hl := Lib.hid hms
  obtain ⟨hd, hbs, h6⟩ := codN_0 hc
  have hS := (isD_iff n ms hms hb).1 hd
  obtain ⟨h1, h8⟩ := hS.1
  obtain ⟨hpr, hp, hp2, a1, a2⟩ := baseB_t hbs
  have hr := rcp_pos p q hpr a1 a2
  have hi := Lib.hid (fun w => codI_any p q n ms 6 hms hb w)
  rw [hc] at hi
  have hn := Lib.hid (fun w => newI_any p q w hbs)
  unfold wtN
  obtain ⟨N, rfl⟩ : ∃ N : Nat, n = N := ⟨n.toNat, by omega⟩
  have he := Lib.hid (fun w => traI_any p q (rcp p q) (-rcp p q) (-q) hp hp2 (by omega) (by omega) (by omega) (by omega) (by omega) (by omega) (by omega) (by omega) N (by omega) ms hms hb hS w)
  rw [Int.toNat_natCast]
  obtain ⟨V, hV⟩ : ∃ V, trI p (-rcp p q) (-q) N (fun u => entN p q (rcp p q) N ms u u) (2 ^ N) % p = V := ⟨_, rfl⟩
  rw [hV] at he ⊢
  clear hV
  generalize rcp p q = r at *
  have c0 := dcells_zero (N : Int) ms
  clear hb hc hd hS hbs hpr
  go_enter Try.func20, Try.ntmps20
  go_upto_region 5 with (first
    | (refine wpList_load_row rfl 29 _ rfl _ rfl 29 _ (0, 0) _ (Own.new _ _ _) Try.underlying29 rfl (row26 (d17 _ _ (hl.out))) ?_)
    | (go_at_call 33; ((with_reducible refine (hi.out _).mono ?_); rintro e w1 ⟨rfl, hB1⟩))
    | (go_at_call 26; ((with_reducible refine (hn.out _).mono ?_); rintro e w2 ⟨rfl, hB2⟩))
    | (refine wpList_store_own rfl 43 _ _ rfl _ _ rfl rfl 43 _ (Own.new w2 _ _) (by kernel_rfl) rfl (by simp [spc, Value.oneCell']) ?_; intro w4 hO4 hN4))
  have b1 : Below w.heap.size w w1 := ((Below.refl _ _).alloc (Nat.le_refl _) _).trans (hB1.mono (by simp))
  have b2 := b1.trans (hB2.mono b1.size)
  have b4 : Below w.heap.size w w4 := (b2.alloc b2.size _).trans (hN4.below.mono b2.size)
  have n1 := (Own.new w (dcells N ms) 29).below hB1 (by simp)
  have n2 := n1.below hB2 n1.lt
  have n4 := (n2.alloc (.cells (spc 0 0 0) 43))
  have n5 : Own w4 w.heap.size (dcells N ms) 29 := n4.below hN4.below n2.lt
  obtain ⟨d0, d1, d2⟩ := spc_own (p := p) (q := q) (r := r) hO4
  clear c0 hB1 hB2 n1 n2 n4
  go_wp2_with (first
    | (refine wpList_load_row rfl 43 _ rfl _ rfl 43 _ (0, 0) _ hO4 Try.underlying43 rfl (rowSp p q r) ?_)
    | (refine wpList_load_row rfl 29 _ rfl _ rfl 29 _ (0, 0) _ (n5) Try.underlying29 rfl (row26 (d17 _ _ (hl.out))) ?_)
    | (go_at_call 43; ((with_reducible refine (he.out _).mono ?_); rintro e w5 ⟨rfl, hB5⟩)))
  go_ret2
  exact ⟨rfl, b4.trans (hB5.mono b4.size)⟩
set_option maxRecDepth 100000 in
set_option maxHeartbeats 1000000 in
theorem ptI_code (p q n : Int) (ms : List Int) (hms : ms.length = 16) (hb : Bytes ms) (w : World) (hc : codN p q n ms 6 ≠ 0) :
    Calls Try.prog 22 #[.int .i64 p, .int .i64 q, .agg (dcells n ms)] w fun e w' => e = .returned (.tuple #[.int .i64 0, .int .i64 (codN p q n ms 6)]) ∧ Below w.heap.size w w' := by
  have hl := Lib.hid hms
  have hi := Lib.hid (fun w => codI_any p q n ms 6 hms hb w)
  obtain ⟨c, hcc⟩ : ∃ c, codN p q n ms 6 = c := ⟨_, rfl⟩
  rw [hcc] at hc hi ⊢
  clear hb hcc
  go_enter Try.func22, Try.ntmps22
  go_wp2_with (first
    | (refine wpList_load_row rfl 29 _ rfl _ rfl 29 _ (0, 0) _ (Own.new _ _ _) Try.underlying29 rfl (row26 (d17 _ _ (hl.out))) ?_)
    | (go_at_call 33; ((with_reducible refine (hi.out _).mono ?_); rintro e w1 ⟨rfl, hB1⟩)))
  go_ret2
  exact ⟨rfl, ((Below.refl _ _).alloc (Nat.le_refl _) _).trans (hB1.mono (by simp))⟩
set_option maxRecDepth 100000 in
set_option maxHeartbeats 1000000 in
theorem ptI_ok (p q n : Int) (ms : List Int) (hms : ms.length = 16) (hb : Bytes ms) (w : World) (hc : codN p q n ms 6 = 0) :
    Calls Try.prog 22 #[.int .i64 p, .int .i64 q, .agg (dcells n ms)] w fun e w' => e = .returned (.tuple #[.int .i64 (ptN p q n ms), .int .i64 0]) ∧ Below w.heap.size w w' := by
  have hl := Lib.hid hms
  obtain ⟨hd, hbs, h6⟩ := codN_0 hc
  have hS := (isD_iff n ms hms hb).1 hd
  obtain ⟨h1, h8⟩ := hS.1
  obtain ⟨hpr, hp, hp2, a1, a2⟩ := baseB_t hbs
  have hr := rcp_pos p q hpr a1 a2
  have hi := Lib.hid (fun w => codI_any p q n ms 6 hms hb w)
  rw [hc] at hi
  have hn := Lib.hid (fun w => newI_any p q w hbs)
  unfold ptN
  obtain ⟨N, rfl⟩ : ∃ N : Nat, n = N := ⟨n.toNat, by omega⟩
  have he := Lib.hid (fun w => traI_any p q (rcp p q) 1 1 hp hp2 (by omega) (by omega) (by omega) (by omega) (by omega) (by omega) (by omega) (by omega) N (by omega) ms hms hb hS w)
  rw [Int.toNat_natCast]
  obtain ⟨V, hV⟩ : ∃ V, trI p 1 1 N (fun u => entN p q (rcp p q) N ms u u) (2 ^ N) % p = V := ⟨_, rfl⟩
  rw [hV] at he ⊢
  clear hV
  generalize rcp p q = r at *
  have c0 := dcells_zero (N : Int) ms
  clear hb hc hd hS hbs hpr
  go_enter Try.func22, Try.ntmps22
  go_upto_region 4 with (first
    | (refine wpList_load_row rfl 29 _ rfl _ rfl 29 _ (0, 0) _ (Own.new _ _ _) Try.underlying29 rfl (row26 (d17 _ _ (hl.out))) ?_)
    | (go_at_call 33; ((with_reducible refine (hi.out _).mono ?_); rintro e w1 ⟨rfl, hB1⟩)))
  refine gen_spin (fun x => Own x w.heap.size (dcells N ms) 29 ∧ Below w.heap.size w x) ⟨(Own.new w _ _).below (by simpa using hB1) (by simp), ((Below.refl _ _).alloc (Nat.le_refl _) _).trans (hB1.mono (by simp))⟩ ?_
  rintro x ⟨hO, hB⟩
  clear hB1 c0
  refine wp_region_st (fun x => Own x w.heap.size (dcells N ms) 29) [(true, 0), (true, 1), (true, 3), (false, 2)] 4 (by kernel_rfl) (by kernel_rfl) (hO.drewN 1) ?_
  have hOd : Own { x with drawn := x.drawn + 1 } w.heap.size (dcells N ms) 29 := hO
  have hBd : Below w.heap.size w { x with drawn := x.drawn + 1 } := hB.drew
  clear hO hB
  generalize ({ x with drawn := x.drawn + 1 } : World) = w3 at *
  simp only [List.map_cons, List.map_nil, opS'_mk, opN_zero, opN_succ, List.drop_succ_cons, List.drop_zero]
  (apply wpSt_read; · (intro wd hS K hK; clear hS; go_simp; exact hK))
  (apply wpSt_read; · (intro wd hS K hK; clear hS; go_simp; exact hK))
  (apply wpSt_read; · (intro wd hS K hK; rw [if_pos (by rfl)]; refine still_load_row 29 (.tmp 5) rfl w.heap.size rfl 29 (dcells N ms) _ hS Try.underlying29 rfl (row26 (d17 _ _ hl.out)) ?_; exact hK))
  refine wpSt_keep (fun K hK => ?_)
  go_wp2_with (first
    | (go_at_call 26; ((with_reducible refine (hn.out w3).mono ?_); rintro e w4 ⟨rfl, hB4⟩)))
  refine hK _ _ (hOd.below hB4 hOd.lt) rfl ?_
  clear hK K
  have b4 : Below w.heap.size w w4 := hBd.trans (hB4.mono hBd.size)
  clear hOd hBd hB4
  refine wpSt_nil ?_
  go_wp2_with (first
    | (go_at_call 43; ((with_reducible refine (he.out w4).mono ?_); rintro e w5 ⟨rfl, hB5⟩)))
  go_ret2
  exact ⟨rfl, b4.trans (hB5.mono b4.size)⟩
end Go.Proofs.Ytnlbokigogbneaa
