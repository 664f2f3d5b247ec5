/- ScaleElement: the errors. (Written by genscb.py.) -/
import Derived.Test.YtpmcngmphkegnaaScl
namespace Go.Proofs.Ytpmcngmphkegnaa
open Go.RowKit Go.Lib
set_option linter.unusedVariables false
set_option linter.unusedSimpArgs false
set_option maxRecDepth 100000 in
set_option maxHeartbeats 4000000 in
theorem sclI_b1 (p c n k : Int) (a cap : Nat) (ts : List Tm) (hts : ∀ t ∈ ts, t.2.1.length = 16 ∧ Bytes t.2.1) (hx : ts.length ≤ 1048576) (he : elB p c n ts = false) (w : World) (hR : RdT w (some ⟨a, 0, none⟩) ts) :
    Calls Try.prog 22 #[.agg (ecl p c n (.slice (some ⟨a, 0, none⟩) ts.length cap)), .int .i64 k] w fun e w' => e = .returned (.tuple #[.agg (ecl 0 0 0 (.slice none 0 0)), .int .i64 1]) ∧ Below w.heap.size w w' := by
  have hi := Lib.hid (fun w hR => elI_any p c n (some ⟨a, 0, none⟩) cap ts hts hx w hR)
  rw [he] at hi
  obtain ⟨l, hll⟩ : ∃ l, ts.length = l := ⟨_, rfl⟩
  rw [hll] at hi ⊢
  have hR' := Lib.hid (fun w' (hb : Below w.heap.size w w') => hR.below hb)
  have b00 := built00
  clear hts hx he hR hll
  unfold ecl at *
  go_enter Try.func22, Try.ntmps22
  go_wp2_with (first
    | (go_at_call 58; (have wb := (((Below.refl w.heap.size w).alloc (Nat.le_refl _) (.cells #[.int .i64 p, .int .i64 c, .int .i64 n, .slice (some ⟨a, 0, none⟩) l cap] 28)).alloc (by simp) (.cells #[.int .i64 0, .int .i64 0, .int .i64 0, .slice none 0 0] 28)); (with_reducible refine (hi.out _ (hR'.out _ wb)).mono ?_); rintro e w1 ⟨rfl, hB1⟩; have oR1 := (Own.at (w.alloc (.cells #[.int .i64 p, .int .i64 c, .int .i64 n, .slice (some ⟨a, 0, none⟩) l cap] 28)) #[.int .i64 0, .int .i64 0, .int .i64 0, .slice none 0 0] 28 (by simp : _ = w.heap.size + 1)).below hB1 (by simp); have b1 : Below w.heap.size w w1 := wb.trans (hB1.mono (by simp; omega)); clear hB1 wb))
    | (refine wpList_load_row rfl 28 _ rfl _ rfl 28 _ (0, 0) _ ((Own.new w _ _).alloc _) Try.underlying28 rfl (by kernel_rfl) ?_)
    | (refine wpList_store_own rfl 28 _ _ rfl _ _ rfl rfl 28 _ oR1 (by kernel_rfl) rfl (by simp [Value.oneCell']) ?_; intro w5 oR5 hN5))
  refine bodyPost_ret (v := .tuple #[.agg #[.int .i64 0, .int .i64 0, .int .i64 0, .slice none 0 0], .int .i64 1]) (results_row_tmp rfl _ _ _ _ _ (0, 0) _ rfl oR5 Try.underlying28 rfl (by kernel_rfl) _ rfl) rfl ⟨rfl, b1.trans (hN5.below.mono (by omega))⟩
set_option maxRecDepth 100000 in
set_option maxHeartbeats 4000000 in
theorem sclS_b1 (p c n k : Int) (a cap : Nat) (ts : List Tm) (hts : ∀ t ∈ ts, t.2.1.length = 16 ∧ Bytes t.2.1) (hx : ts.length ≤ 1048576) (hpw : -9223372036854775808 ≤ p ∧ p ≤ 9223372036854775807) (he : elB p c n ts = false) (w : World) (hR : RdT w (some ⟨a, 0, none⟩) ts) :
    Calls Try.prog 21 #[.agg (ecl p c n (.slice (some ⟨a, 0, none⟩) ts.length cap)), .int .i64 k] w fun e w' => e = .returned (.tuple #[.agg (ecl 0 0 0 (.slice none 0 0)), .int .i64 1]) ∧ Below w.heap.size w w' := by
  have hi := Lib.hid (fun w hR => elS_any p c n (some ⟨a, 0, none⟩) cap ts hts hx hpw w hR)
  rw [he] at hi
  obtain ⟨l, hll⟩ : ∃ l, ts.length = l := ⟨_, rfl⟩
  rw [hll] at hi ⊢
  have hR' := Lib.hid (fun w' (hb : Below w.heap.size w w') => hR.below hb)
  have b00 := built00
  clear hts hx he hR hll
  unfold ecl at *
  go_enter Try.func21, Try.ntmps21
  go_wp2_with (first
    | (go_at_call 55; (have wb := (((Below.refl w.heap.size w).alloc (Nat.le_refl _) (.cells #[.int .i64 p, .int .i64 c, .int .i64 n, .slice (some ⟨a, 0, none⟩) l cap] 28)).alloc (by simp) (.cells #[.int .i64 0, .int .i64 0, .int .i64 0, .slice none 0 0] 28)); (with_reducible refine (hi.out _ (hR'.out _ wb)).mono ?_); rintro e w1 ⟨rfl, hB1⟩; have oR1 := (Own.at (w.alloc (.cells #[.int .i64 p, .int .i64 c, .int .i64 n, .slice (some ⟨a, 0, none⟩) l cap] 28)) #[.int .i64 0, .int .i64 0, .int .i64 0, .slice none 0 0] 28 (by simp : _ = w.heap.size + 1)).below hB1 (by simp); have b1 : Below w.heap.size w w1 := wb.trans (hB1.mono (by simp; omega)); clear hB1 wb))
    | (refine wpList_load_row rfl 28 _ rfl _ rfl 28 _ (0, 0) _ ((Own.new w _ _).alloc _) Try.underlying28 rfl (by kernel_rfl) ?_)
    | (refine wpList_store_own rfl 28 _ _ rfl _ _ rfl rfl 28 _ oR1 (by kernel_rfl) rfl (by simp [Value.oneCell']) ?_; intro w5 oR5 hN5))
  refine bodyPost_ret (v := .tuple #[.agg #[.int .i64 0, .int .i64 0, .int .i64 0, .slice none 0 0], .int .i64 1]) (results_row_tmp rfl _ _ _ _ _ (0, 0) _ rfl oR5 Try.underlying28 rfl (by kernel_rfl) _ rfl) rfl ⟨rfl, b1.trans (hN5.below.mono (by omega))⟩
set_option maxRecDepth 100000 in
set_option maxHeartbeats 4000000 in
theorem sclI_b2 (p c n k : Int) (a cap : Nat) (ts : List Tm) (hts : ∀ t ∈ ts, t.2.1.length = 16 ∧ Bytes t.2.1) (hx : ts.length ≤ 1048576) (he : elB p c n ts = true) (hk : ¬ (-1000000 ≤ k ∧ k ≤ 1000000)) (w : World) (hR : RdT w (some ⟨a, 0, none⟩) ts) :
    Calls Try.prog 22 #[.agg (ecl p c n (.slice (some ⟨a, 0, none⟩) ts.length cap)), .int .i64 k] w fun e w' => e = .returned (.tuple #[.agg (ecl 0 0 0 (.slice none 0 0)), .int .i64 2]) ∧ Below w.heap.size w w' := by
  have hi := Lib.hid (fun w hR => elI_any p c n (some ⟨a, 0, none⟩) cap ts hts hx w hR)
  rw [he] at hi
  have hmu := Lib.hid (fun w => multI_any k w)
  rw [decide_eq_false hk] at hmu
  obtain ⟨l, hll⟩ : ∃ l, ts.length = l := ⟨_, rfl⟩
  rw [hll] at hi ⊢
  have hR' := Lib.hid (fun w' (hb : Below w.heap.size w w') => hR.below hb)
  have b00 := built00
  clear hts hx he hR hll
  unfold ecl at *
  go_enter Try.func22, Try.ntmps22
  go_wp2_with (first
    | (go_at_call 58; (have wb := (((Below.refl w.heap.size w).alloc (Nat.le_refl _) (.cells #[.int .i64 p, .int .i64 c, .int .i64 n, .slice (some ⟨a, 0, none⟩) l cap] 28)).alloc (by simp) (.cells #[.int .i64 0, .int .i64 0, .int .i64 0, .slice none 0 0] 28)); (with_reducible refine (hi.out _ (hR'.out _ wb)).mono ?_); rintro e w1 ⟨rfl, hB1⟩; have oR1 := (Own.at (w.alloc (.cells #[.int .i64 p, .int .i64 c, .int .i64 n, .slice (some ⟨a, 0, none⟩) l cap] 28)) #[.int .i64 0, .int .i64 0, .int .i64 0, .slice none 0 0] 28 (by simp : _ = w.heap.size + 1)).below hB1 (by simp); have b1 : Below w.heap.size w w1 := wb.trans (hB1.mono (by simp; omega)); clear hB1 wb))
    | (refine wpList_load_row rfl 28 _ rfl _ rfl 28 _ (0, 0) _ ((Own.new w _ _).alloc _) Try.underlying28 rfl (by kernel_rfl) ?_)
    | (refine wpList_store_own rfl 28 _ _ rfl _ _ rfl rfl 28 _ oR1 (by kernel_rfl) rfl (by simp [Value.oneCell']) ?_; intro w5 oR5 hN5)
    | (go_at_call 59; ((with_reducible refine (hmu.out _).mono ?_); rintro e w2 ⟨rfl, rfl⟩)))
  refine bodyPost_ret (v := .tuple #[.agg #[.int .i64 0, .int .i64 0, .int .i64 0, .slice none 0 0], .int .i64 2]) (results_row_tmp rfl _ _ _ _ _ (0, 0) _ rfl oR5 Try.underlying28 rfl (by kernel_rfl) _ rfl) rfl ⟨rfl, b1.trans (hN5.below.mono (by omega))⟩
set_option maxRecDepth 100000 in
set_option maxHeartbeats 4000000 in
theorem sclS_b2 (p c n k : Int) (a cap : Nat) (ts : List Tm) (hts : ∀ t ∈ ts, t.2.1.length = 16 ∧ Bytes t.2.1) (hx : ts.length ≤ 1048576) (hpw : -9223372036854775808 ≤ p ∧ p ≤ 9223372036854775807) (he : elB p c n ts = true) (hk : ¬ (-1000000 ≤ k ∧ k ≤ 1000000)) (w : World) (hR : RdT w (some ⟨a, 0, none⟩) ts) :
    Calls Try.prog 21 #[.agg (ecl p c n (.slice (some ⟨a, 0, none⟩) ts.length cap)), .int .i64 k] w fun e w' => e = .returned (.tuple #[.agg (ecl 0 0 0 (.slice none 0 0)), .int .i64 2]) ∧ Below w.heap.size w w' := by
  have hi := Lib.hid (fun w hR => elS_any p c n (some ⟨a, 0, none⟩) cap ts hts hx hpw w hR)
  rw [he] at hi
  have hin := Lib.hid (fun w => inS_f k (-1000000) 1000000 w (by omega))
  obtain ⟨l, hll⟩ : ∃ l, ts.length = l := ⟨_, rfl⟩
  rw [hll] at hi ⊢
  have hR' := Lib.hid (fun w' (hb : Below w.heap.size w w') => hR.below hb)
  have b00 := built00
  clear hts hx he hR hll
  unfold ecl at *
  go_enter Try.func21, Try.ntmps21
  go_wp2_with (first
    | (go_at_call 55; (have wb := (((Below.refl w.heap.size w).alloc (Nat.le_refl _) (.cells #[.int .i64 p, .int .i64 c, .int .i64 n, .slice (some ⟨a, 0, none⟩) l cap] 28)).alloc (by simp) (.cells #[.int .i64 0, .int .i64 0, .int .i64 0, .slice none 0 0] 28)); (with_reducible refine (hi.out _ (hR'.out _ wb)).mono ?_); rintro e w1 ⟨rfl, hB1⟩; have oR1 := (Own.at (w.alloc (.cells #[.int .i64 p, .int .i64 c, .int .i64 n, .slice (some ⟨a, 0, none⟩) l cap] 28)) #[.int .i64 0, .int .i64 0, .int .i64 0, .slice none 0 0] 28 (by simp : _ = w.heap.size + 1)).below hB1 (by simp); have b1 : Below w.heap.size w w1 := wb.trans (hB1.mono (by simp; omega)); clear hB1 wb))
    | (refine wpList_load_row rfl 28 _ rfl _ rfl 28 _ (0, 0) _ ((Own.new w _ _).alloc _) Try.underlying28 rfl (by kernel_rfl) ?_)
    | (refine wpList_store_own rfl 28 _ _ rfl _ _ rfl rfl 28 _ oR1 (by kernel_rfl) rfl (by simp [Value.oneCell']) ?_; intro w5 oR5 hN5)
    | (go_at_call 56; ((with_reducible refine (hin.out _).mono ?_); rintro e w2 ⟨rfl, rfl⟩)))
  refine bodyPost_ret (v := .tuple #[.agg #[.int .i64 0, .int .i64 0, .int .i64 0, .slice none 0 0], .int .i64 2]) (results_row_tmp rfl _ _ _ _ _ (0, 0) _ rfl oR5 Try.underlying28 rfl (by kernel_rfl) _ rfl) rfl ⟨rfl, b1.trans (hN5.below.mono (by omega))⟩
end Go.Proofs.Ytpmcngmphkegnaa
