/- Elements: the laws' own copies of them, their sizes, and comparisons of equal ones. -/
import Derived.Test.YtdmgmhjclagnpaaTermS
namespace Go.Proofs.Ytdmgmhjclagnpaa
open Go.RowKit
set_option linter.unusedVariables false
/-- The cells of an element: prime, loop, size, terms. -/
def ecl (p c n : Int) (v : Value) : Array Value := #[.int .i64 p, .int .i64 c, .int .i64 n, v]
set_option maxRecDepth 100000 in
theorem szTS_any (q : Option Addr) (len cap : Nat) (l : Int) (w : World) (hl : len ≤ maxLen) (h0 : 0 ≤ l) (h1 : l ≤ 1048576) :
    Calls Try.prog 36 #[.slice q len cap, .int .i64 l] w fun e w' => e = .returned (.int .i64 (if l - len < 0 then -1 else l - len)) ∧ w' = w := by
  unfold maxLen at hl
  by_cases h : l - len < 0
  · rw [if_pos h]
    go_enter Try.func36, Try.ntmps36
    go_wp2
    go_ret
    exact ⟨rfl, rfl⟩
  · rw [if_neg h]
    go_enter Try.func36, Try.ntmps36
    go_wp2
    go_ret
    exact ⟨rfl, rfl⟩
set_option maxRecDepth 100000 in
theorem szE_any (p c n : Int) (q : Option Addr) (len cap : Nat) (l : Int) (w : World) (hl : len ≤ maxLen) (h0 : 0 ≤ l) (h1 : l ≤ 1048576) :
    Calls Try.prog 18 #[.agg (ecl p c n (.slice q len cap)), .int .i64 l] w fun e w' => e = .returned (.int .i64 (if l - len < 0 then -1 else l - len)) ∧ Below w.heap.size w w' := by
  have hs := Lib.hid (fun w => szTS_any q len cap l w hl h0 h1)
  unfold ecl
  by_cases h : l - len < 0
  · rw [if_pos h] at hs ⊢
    clear hl
    go_enter Try.func18, Try.ntmps18
    go_wp2_with (first
      | (go_at_call 36; ((with_reducible refine (hs.out _).mono ?_); rintro e w1 ⟨rfl, hw⟩)))
    subst hw
    go_ret
    exact ⟨rfl, (Below.refl _ _).alloc (Nat.le_refl _) _⟩
  · rw [if_neg h] at hs ⊢
    have h2 : ¬ (l - len < 0) := h
    generalize l - (len : Int) = r at *
    clear hl
    go_enter Try.func18, Try.ntmps18
    go_wp2_with (first
      | (go_at_call 36; ((with_reducible refine (hs.out _).mono ?_); rintro e w1 ⟨rfl, hw⟩)))
    subst hw
    go_ret
    exact ⟨rfl, (Below.refl _ _).alloc (Nat.le_refl _) _⟩
set_option maxRecDepth 100000 in
set_option maxHeartbeats 1000000 in
theorem toE_any (p c n : Int) (q : Option Addr) (cap : Nat) (ts : List Tm) (hts : ∀ t ∈ ts, t.2.1.length = 16) (hx : ts.length ≤ 1048576) (w : World) (hR : RdT w q ts) :
    Calls Try.prog 20 #[.agg (ecl p c n (.slice q ts.length cap))] w fun e w' => e = .returned (.agg (ecl p c n (.slice (some ⟨w.heap.size + 3, 0, none⟩) ts.length ts.length))) ∧ Own w' (w.heap.size + 3) (tsl ts).toArray 66 ∧ Below w.heap.size w w' := by
  have hto := Lib.hid (fun w hR => toTS_any q cap ts hts hx w hR)
  have hR' := Lib.hid (fun w' (hB : Below w.heap.size w w') => hR.below hB)
  obtain ⟨m, hm⟩ : ∃ m, ts.length = m := ⟨_, rfl⟩
  rw [hm] at hto ⊢
  unfold ecl
  clear hR hts hm
  go_enter Try.func20, Try.ntmps20
  have h3 := Lib.hid (fun (A B C : Obj) => show Below w.heap.size w (((w.alloc A).alloc B).alloc C) from (((Below.refl _ w).alloc (Nat.le_refl _) A).alloc (by simp) B).alloc (by simp; omega) C)
  go_wp2_with (first
    | (go_at_call 41; ((with_reducible refine (hto.out _ (hR'.out _ (h3.out _ _ _))).mono ?_); rintro e w1 ⟨he, hO1, hB1⟩; have he' : e = .returned (.slice (some ⟨w.heap.size + 3, 0, none⟩) m m) := (by simpa using he); subst he'; have hO2 : Own w1 (w.heap.size + 3) (tsl ts).toArray 66 := (by simpa using hO1); have hC : Own w1 (w.heap.size + 1 + 1) #[.int .i64 p, .int .i64 c, .int .i64 n, .slice none 0 0] 24 := (Own.at _ _ _ (by simp)).below hB1 (by simp); have hD : Own w1 (w.heap.size + 1) #[.int .i64 0, .int .i64 0, .int .i64 0, .slice none 0 0] 24 := ((Own.at _ _ _ (by simp)).alloc _).below hB1 (by simp <;> omega); have b1 : Below w.heap.size w w1 := (h3.out _ _ _).trans (hB1.mono (h3.out _ _ _).size); have c3 : w1.cell? ⟨w.heap.size + 1 + 1, 3, none⟩ = some (.slice none 0 0) := hC.cell 3; have f3 := hC.free 3; have hC2 := Lib.hid (show Own (w1.setCell ⟨w.heap.size + 1 + 1, 3, none⟩ (.slice (some ⟨w.heap.size + 3, 0, none⟩) m m)) (w.heap.size + 1 + 1) #[.int .i64 p, .int .i64 c, .int .i64 n, .slice (some ⟨w.heap.size + 3, 0, none⟩) m m] 24 from hC.set 3 _); have hD2 := Lib.hid (hD.other (a := ⟨w.heap.size + 1 + 1, 3, none⟩) (by simp) (.slice (some ⟨w.heap.size + 3, 0, none⟩) m m)); have hO3 := Lib.hid (hO2.other (a := ⟨w.heap.size + 1 + 1, 3, none⟩) (by simp) (.slice (some ⟨w.heap.size + 3, 0, none⟩) m m)); have b2 := Lib.hid (b1.setCell (p := ⟨w.heap.size + 1 + 1, 3, none⟩) (by simp; omega) (.slice (some ⟨w.heap.size + 3, 0, none⟩) m m)); clear he hO1 hO2 hB1 hC hD))
    | (refine wpList_load_row rfl 24 _ rfl _ rfl 24 _ (0, 0) _ hC2.out Try.underlying24 rfl (by kernel_rfl) ?_)
    | (refine wpList_store_own rfl 24 _ _ rfl _ _ rfl rfl 24 _ hD2.out (by kernel_rfl) rfl (by simp [Value.oneCell']) ?_; intro w4 hO4 hN4))
  refine bodyPost_ret (v := .agg #[.int .i64 p, .int .i64 c, .int .i64 n, .slice (some ⟨w.heap.size + 3, 0, none⟩) m m]) (results_cell_row rfl _ _ _ _ _ (0, 0) _ rfl hO4 Try.underlying24 rfl (by kernel_rfl)) rfl ⟨rfl, hO3.out.only hN4 (by simp), b2.out.trans (hN4.below.mono (Nat.le_succ _))⟩
end Go.Proofs.Ytdmgmhjclagnpaa
