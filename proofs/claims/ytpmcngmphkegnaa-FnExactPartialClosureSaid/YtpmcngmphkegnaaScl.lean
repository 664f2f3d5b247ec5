/- ScaleElement: the program and the model. -/
import Derived.Test.YtpmcngmphkegnaaSms
import Derived.Test.YtpmcngmphkegnaaElL
import Derived.Test.YtpmcngmphkegnaaElA
namespace Go.Proofs.Ytpmcngmphkegnaa
open Go.RowKit Go.Lib
set_option linter.unusedVariables false
set_option linter.unusedSimpArgs false
set_option maxRecDepth 100000 in
set_option maxHeartbeats 4000000 in
theorem sclI_ok (p c n k : Int) (a cap : Nat) (ts : List Tm) (hts : ∀ t ∈ ts, t.2.1.length = 16 ∧ Bytes t.2.1) (hx : ts.length ≤ 1048576) (he : elB p c n ts = true) (hk : -1000000 ≤ k ∧ k ≤ 1000000) (w : World) (hR : RdT w (some ⟨a, 0, none⟩) ts) :
    Calls Try.prog 22 #[.agg (ecl p c n (.slice (some ⟨a, 0, none⟩) ts.length cap)), .int .i64 k] w fun e w' => (∃ q cap, e = .returned (.tuple #[.agg (ecl p c n (.slice q (smN p k ts []).length cap)), .int .i64 0]) ∧ Res w' w.heap.size q (smN p k ts [])) ∧ Below w.heap.size w w' := by
  obtain ⟨hp, hc, hn, hl, hG0, hsz, hp2, hp97, hto⟩ := elB_good he hts
  have hi := Lib.hid (fun w hR => elI_any p c n (some ⟨a, 0, none⟩) cap ts hts hx w hR)
  rw [he] at hi
  have hmu := Lib.hid (fun w => multI_any k w)
  rw [show decide (-1000000 ≤ k ∧ k ≤ 1000000) = true by simp [hk]] at hmu
  have hadd := Lib.hid (fun W hR => addTs_any W.heap.size 0 [] p c n k (some ⟨a, 0, none⟩) cap ts (W.alloc (.map #[] 0)) hR (Smp.new W) (Good.nil p) hto hp2 hp97 hk.1 hk.2 (by omega))
  have hG : GoodT p (smN p k ts []) := smN_good (by omega) ts [] (fun t ht => (hto t ht).1) (Good.nil p)
  have hln := smN_len p k ts []
  simp only [List.length_nil, Nat.zero_add] at hln
  obtain ⟨R, hRR⟩ : ∃ R, smN p k ts [] = R := ⟨_, rfl⟩
  rw [hRR] at hadd hG hln ⊢
  obtain ⟨l, hll⟩ : ∃ l, ts.length = l := ⟨_, rfl⟩
  have heos := Lib.hid (fun b W hM => eos_any p c n (some ⟨a, 0, none⟩) l cap b (0 + l) p R W hM hG hp97 (by omega))
  rw [hll] at hi hadd ⊢
  have hR' := Lib.hid (fun w' (hb : Below w.heap.size w w') => hR.below hb)
  have hmk : ∀ w : World, (Instr.makeMap 54 none).run Try.prog w = .ok (.map (some w.heap.size)) (w.alloc (.map #[] 0)) := fun w => rfl
  clear hts hx he hk hR hp hc hn hl hG0 hsz hto hG hln hRR hll
  unfold ecl at *
  go_enter Try.func22, Try.ntmps22
  go_wp2_with (first
    | (go_at_call 58; (have wb := (((Below.refl w.heap.size w).alloc (Nat.le_refl _) (.cells #[.int .i64 p, .int .i64 c, .int .i64 n, .slice (some ⟨a, 0, none⟩) l cap] 28)).alloc (by simp) (.cells #[.int .i64 0, .int .i64 0, .int .i64 0, .slice none 0 0] 28)); (with_reducible refine (hi.out _ (hR'.out _ wb)).mono ?_); rintro e w1 ⟨rfl, hB1⟩; have oX1 := ((Own.new w #[.int .i64 p, .int .i64 c, .int .i64 n, .slice (some ⟨a, 0, none⟩) l cap] 28).alloc (.cells #[.int .i64 0, .int .i64 0, .int .i64 0, .slice none 0 0] 28)).below hB1 (by simp; omega); have oR1 := (Own.at (w.alloc (.cells #[.int .i64 p, .int .i64 c, .int .i64 n, .slice (some ⟨a, 0, none⟩) l cap] 28)) #[.int .i64 0, .int .i64 0, .int .i64 0, .slice none 0 0] 28 (by simp : _ = w.heap.size + 1)).below hB1 (by simp); have b1 : Below w.heap.size w w1 := wb.trans (hB1.mono (by simp; omega)); clear hB1 wb))
    | (go_at_call 59; ((with_reducible refine (hmu.out _).mono ?_); rintro e w2 ⟨rfl, rfl⟩))
    | (refine wpList_load_row rfl 28 _ rfl _ rfl 28 _ (0, 0) _ oX3 Try.underlying28 rfl (by kernel_rfl) ?_)
    | (refine wpList_load_row rfl 28 _ rfl _ rfl 28 _ (0, 0) _ (oX1.alloc (.map #[] 0)) Try.underlying28 rfl (by kernel_rfl) ?_)
    | (refine wpList_load_row rfl 28 _ rfl _ rfl 28 _ (0, 0) _ ((Own.new w _ _).alloc _) Try.underlying28 rfl (by kernel_rfl) ?_)
    | (go_at_call 50; ((with_reducible refine (hadd.out w2 ((hR'.out w2 b1).al _)).mono ?_); rintro e w3 ⟨rfl, hM3, hG3⟩; have e0 := oX1.lt; have e1 := oR1.lt; have oX3 := (hG3.block _ (by simp; omega) (fun e => by have := Option.some.inj e; omega)).trans (oX1.alloc _); have oR3 := (hG3.block _ (by simp; omega) (fun e => by have := Option.some.inj e; omega)).trans (oR1.alloc _); have b3 := (b1.alloc b1.size (.map #[] 0)).grown hG3 (by have := b1.size; simp; omega) (fun j e => by cases e; exact b1.size)))
    | (go_at_call 51; ((with_reducible refine (heos.out _ _ hM3).mono ?_); rintro e w4 ⟨qt, mt, ct, rfl, hT4, hB4⟩; have oR4 := Own.below oR3 hB4 (Own.lt oR3); have b4 := b3.trans (hB4.mono b3.size)))
    | (refine wpList_store_own rfl 28 _ _ rfl _ _ rfl rfl 28 _ oR4 (by kernel_rfl) rfl (by simp [Value.oneCell']) ?_; intro w5 oR5 hN5))
  obtain ⟨rfl, hr⟩ := hT4.res
  have hr5 : Res w5 w.heap.size qt R := (hr.onl hN5 (by have := Own.lt oR3; omega)).weak b3.size
  refine bodyPost_ret (v := .tuple #[.agg #[.int .i64 p, .int .i64 c, .int .i64 n, .slice qt R.length ct], .int .i64 0]) (results_row_tmp rfl _ _ _ _ _ (0, 0) _ rfl oR5 Try.underlying28 rfl (by kernel_rfl) _ rfl) rfl ⟨⟨qt, ct, rfl, hr5⟩, b4.trans (hN5.below.mono (by omega))⟩
set_option maxRecDepth 100000 in
set_option maxHeartbeats 4000000 in
theorem sclS_ok (p c n k : Int) (a cap : Nat) (ts : List Tm) (hts : ∀ t ∈ ts, t.2.1.length = 16 ∧ Bytes t.2.1) (hx : ts.length ≤ 1048576) (he : elB p c n ts = true) (hk : -1000000 ≤ k ∧ k ≤ 1000000) (w : World) (hR : RdT w (some ⟨a, 0, none⟩) ts) :
    Calls Try.prog 21 #[.agg (ecl p c n (.slice (some ⟨a, 0, none⟩) ts.length cap)), .int .i64 k] w fun e w' => (∃ q cap, e = .returned (.tuple #[.agg (ecl p c n (.slice q (smN p k ts []).length cap)), .int .i64 0]) ∧ Res w' w.heap.size q (smN p k ts [])) ∧ Below w.heap.size w w' := by
  obtain ⟨hp, hc, hn, hl, hG0, hsz, hp2, hp97, hto⟩ := elB_good he hts
  have hi := Lib.hid (fun w hR => elS_any p c n (some ⟨a, 0, none⟩) cap ts hts hx (by omega) w hR)
  rw [he] at hi
  have hin := Lib.hid (fun w => inS_t k (-1000000) 1000000 w hk.1 hk.2)
  have hem := Lib.hid (fun w => emptyS_any p c n (some ⟨a, 0, none⟩) ts.length cap w)
  have hsu := Lib.hid (fun g1 w h1 h2 => sumS_any p c n k p c n g1 a 0 cap [] ts w h1 h2 (Good.nil p) hto hp2 hp97 hk.1 hk.2 (by simp) (by omega))
  simp only [List.length_nil] at hsu
  obtain ⟨R, hRR⟩ : ∃ R, smN p k ts [] = R := ⟨_, rfl⟩
  rw [hRR] at hsu ⊢
  obtain ⟨l, hll⟩ : ∃ l, ts.length = l := ⟨_, rfl⟩
  rw [hll] at hi hsu hem ⊢
  have hR' := Lib.hid (fun w' (hb : Below w.heap.size w w') => hR.below hb)
  clear hts hx he hk hR hp hc hn hl hG0 hsz hto hRR hll
  unfold ecl at *
  go_enter Try.func21, Try.ntmps21
  go_upto_region 5 with (first
    | (go_at_call 55; (have wb := (((Below.refl w.heap.size w).alloc (Nat.le_refl _) (.cells #[.int .i64 p, .int .i64 c, .int .i64 n, .slice (some ⟨a, 0, none⟩) l cap] 28)).alloc (by simp) (.cells #[.int .i64 0, .int .i64 0, .int .i64 0, .slice none 0 0] 28)); (with_reducible refine (hi.out _ (hR'.out _ wb)).mono ?_); rintro e w1 ⟨rfl, hB1⟩; have oX1 := ((Own.new w #[.int .i64 p, .int .i64 c, .int .i64 n, .slice (some ⟨a, 0, none⟩) l cap] 28).alloc (.cells #[.int .i64 0, .int .i64 0, .int .i64 0, .slice none 0 0] 28)).below hB1 (by simp; omega); have oR1 := (Own.at (w.alloc (.cells #[.int .i64 p, .int .i64 c, .int .i64 n, .slice (some ⟨a, 0, none⟩) l cap] 28)) #[.int .i64 0, .int .i64 0, .int .i64 0, .slice none 0 0] 28 (by simp : _ = w.heap.size + 1)).below hB1 (by simp); have b1 : Below w.heap.size w w1 := wb.trans (hB1.mono (by simp; omega)); clear hB1 wb))
    | (refine wpList_load_row rfl 28 _ rfl _ rfl 28 _ (0, 0) _ ((Own.new w _ _).alloc _) Try.underlying28 rfl (by kernel_rfl) ?_)
    | (go_at_call 56; ((with_reducible refine (hin.out _).mono ?_); rintro e w2 ⟨rfl, rfl⟩)))
  refine wp_region_st (fun x => Own x w.heap.size #[.int .i64 p, .int .i64 c, .int .i64 n, .slice (some ⟨a, 0, none⟩) l cap] 28) [(true, 0), (true, 2), (true, 3), (false, 1), (false, 4)] 5 (by kernel_rfl) (by kernel_rfl) (oX1.drewN 1) ?_
  have oXd : Own { w1 with drawn := w1.drawn + 1 } w.heap.size #[.int .i64 p, .int .i64 c, .int .i64 n, .slice (some ⟨a, 0, none⟩) l cap] 28 := oX1
  have oRd : Own { w1 with drawn := w1.drawn + 1 } (w.heap.size + 1) #[.int .i64 0, .int .i64 0, .int .i64 0, .slice none 0 0] 28 := oR1
  have bd : Below w.heap.size w { w1 with drawn := w1.drawn + 1 } := b1.drew
  clear oX1 oR1 b1
  generalize ({ w1 with drawn := w1.drawn + 1 } : World) = w3 at *
  simp only [List.map_cons, List.map_nil, opS'_mk, opN_zero, opN_succ, List.drop_succ_cons, List.drop_zero]
  (apply wpSt_read; · (intro wd hS K hK; rw [if_pos (by rfl)]; refine still_load_row 28 (.tmp 2) rfl w.heap.size rfl 28 #[.int .i64 p, .int .i64 c, .int .i64 n, .slice (some ⟨a, 0, none⟩) l cap] _ hS Try.underlying28 rfl (by kernel_rfl) ?_; exact hK))
  (apply wpSt_read; · (intro wd hS K hK; rw [if_pos (by rfl)]; refine still_load_row 28 (.tmp 2) rfl w.heap.size rfl 28 #[.int .i64 p, .int .i64 c, .int .i64 n, .slice (some ⟨a, 0, none⟩) l cap] _ hS Try.underlying28 rfl (by kernel_rfl) ?_; exact hK))
  (apply wpSt_read; · (intro wd hS K hK; clear hS; go_simp; exact hK))
  refine wpSt_keep (fun K hK => ?_)
  go_wp2_with (first
    | (go_at_call 57; ((with_reducible refine (hem.out w3).mono ?_); rintro e w4 ⟨g1, rfl, hg1, hO1, hB4⟩)))
  have oX4 := oXd.below hB4 oXd.lt
  have oR4 := oRd.below hB4 oRd.lt
  have b4 := bd.trans (hB4.mono bd.size)
  refine hK _ _ oX4 rfl ?_
  clear hK K oXd oRd hB4
  refine wpSt_keep (fun K hK => ?_)
  go_wp2_with (first
    | (go_at_call 47; ((with_reducible refine (hsu.out g1 w4 (RdT.no _ _) (hR'.out w4 b4)).mono ?_); rintro e w5 ⟨⟨g5, cap5, rfl, hc5, hM5⟩, hB5⟩)))
  have oR5 := oR4.below hB5 oR4.lt
  have b5 := b4.trans (hB5.mono b4.size)
  have z4 := oR4.lt
  refine hK _ _ (oX4.below hB5 oX4.lt) rfl ?_
  clear hK K
  refine wpSt_nil ?_
  go_wp2_with (first
    | (refine wpList_store_own rfl 28 _ _ rfl _ _ rfl rfl 28 _ oR5 (by kernel_rfl) rfl (by simp [Value.oneCell']) ?_; intro w6 oR6 hN6))
  have hr6 : Res w6 w.heap.size (some ⟨g5, 0, none⟩) R := ((Res.own hM5).onl hN6 (by omega)).weak b4.size
  refine bodyPost_ret (v := .tuple #[.agg #[.int .i64 p, .int .i64 c, .int .i64 n, .slice (some ⟨g5, 0, none⟩) R.length cap5], .int .i64 0]) (results_row_tmp rfl _ _ _ _ _ (0, 0) _ rfl oR6 Try.underlying28 rfl (by kernel_rfl) _ rfl) rfl ⟨⟨_, cap5, rfl, hr6⟩, b5.trans (hN6.below.mono (by omega))⟩
end Go.Proofs.Ytpmcngmphkegnaa
