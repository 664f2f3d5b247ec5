/- CountBlobbed, and the law. -/
import Derived.Test.YtpjlienelkflhaaCtm
import Derived.Test.YtpjlienelkflhaaSpecA
import Derived.Test.YtpjlienelkflhaaImplA
namespace Go.Proofs.Ytpjlienelkflhaa
open Go.RowKit Go.Lib
set_option linter.unusedVariables false
set_option linter.unusedSimpArgs false
/-- A whole diagram is read out of such a slice. -/
theorem RowD.at {w : World} {base : Nat} {v : Value} {ds : List DgR} (h : RowD w base v ds) (h16 : LD16 ds) (h1 : 0 < ds.length) :
    ∃ g cap, v = .slice (some ⟨g, 0, none⟩) ds.length cap ∧ base ≤ g ∧ g < w.heap.size := by
  rcases h.shape h16 with ⟨_, e⟩ | ⟨g, cap, e, hb, hl, _⟩
  · rw [e] at h1; simp at h1
  · exact ⟨g, cap, e, hb, hl⟩
theorem RowD.read {w : World} {base g cap : Nat} {ds : List DgR} (h : RowD w base (.slice (some ⟨g, 0, none⟩) ds.length cap) ds) (h16 : LD16 ds) (k : Nat) (hk : k < ds.length) :
    ∀ j u, (dcells (ds.getD k (0, zeros)).1 (ds.getD k (0, zeros)).2).toList[j]? = some u → w.cell? ((⟨g, k * 17, none⟩ : Addr).add j) = some u := by
  rcases h.shape h16 with ⟨e, _⟩ | ⟨g', cap', e, hb, hl, hc⟩
  · cases e
  · cases e
    intro j u hu
    have := hc k hk j u hu
    rwa [Addr.add_mid, Nat.zero_add] at this
theorem allD_pos (n : Nat) (h1 : 1 ≤ n) (h8 : n ≤ 8) : 0 < (allD n).length := by
  have h : n = 1 ∨ n = 2 ∨ n = 3 ∨ n = 4 ∨ n = 5 ∨ n = 6 ∨ n = 7 ∨ n = 8 := by omega
  unfold allD
  rw [List.length_map]
  rcases h with rfl | rfl | rfl | rfl | rfl | rfl | rfl | rfl <;> decide +kernel
theorem allD_16 (n : Nat) : LD16 (allD n) := pD_LD _
set_option maxRecDepth 100000 in
set_option maxHeartbeats 1000000 in
theorem ctbI_ok (n : Nat) (h1 : 1 ≤ n) (h8 : n ≤ 8) (w : World) :
    Calls Try.prog 20 #[.int .i64 n] w fun e w' => e = .returned (.tuple #[.int .i64 (cS (2 * n) 0 : Nat), .int .i64 0]) ∧ Below w.heap.size w w' := by
  have hld := Lib.hid (fun w => ldI_any n h1 h8 w)
  have hget := Lib.hid (allD_get n h1 h8)
  have hall := Lib.hid (gS_all n h1 h8)
  have hbd := Lib.hid (gS_bd n h1 h8)
  have hsu := Lib.hid (gS_succ (allD n))
  have h16 := Lib.hid (allD_16 n)
  have hpos := Lib.hid (allD_pos n h1 h8)
  have hlen := Lib.hid (allD_len n h1 h8)
  obtain ⟨ds, hds⟩ : ∃ ds, allD n = ds := ⟨_, rfl⟩
  obtain ⟨X, hX⟩ : ∃ X, cS (2 * n) 0 = X := ⟨_, rfl⟩
  rw [hX] at hall ⊢
  unfold LdPost at hld
  rw [hds] at hld hget hall hbd hsu h16 hpos hlen
  clear hds hX
  go_enter Try.func20, Try.ntmps20
  go_wp2_with (first
    | (go_at_call 31; ((with_reducible refine (isSize_t _ _ (by omega) (by omega)).mono ?_); rintro e w0 ⟨rfl, rfl⟩))
    | (go_at_call 28; ((with_reducible refine (hld.out _).mono ?_); rintro e w1 ⟨v1, rfl, hR1, hB1⟩); obtain ⟨g, cap, rfl, hg, hgl⟩ := hR1.at h16.out hpos.out))
  have nP := hpos.out
  have nL := hlen.out
  go_loopw [4, 13] (fun cn i wr => ∃ k : Nat, k ≤ ds.length ∧ i = .int .i64 k ∧ cn = .int .i64 (gS ds k : Nat) ∧ RowD wr w.heap.size (.slice (some ⟨g, 0, none⟩) ds.length cap) ds ∧ Below w.heap.size w wr ∧ g < wr.heap.size) (fun _ i _ => (ds.length - intOf i).toNat)
  case atStart => exact ⟨0, by omega, rfl, rfl, hR1, hB1, hgl⟩
  case round =>
    clear hR1 hB1 hgl
    obtain ⟨k, hk, rfl, rfl, hR, hB, hgl⟩ := hrel
    have hgk := hbd.out k hk
    by_cases hlt : k < ds.length
    · obtain ⟨hds, hdl, hdb, hdd⟩ := hget.out k hlt
      have hrd := Lib.hid (hR.read h16.out k hlt)
      have hs := Lib.hid (hsu.out k hlt)
      have hg1 := hbd.out (k + 1) hlt
      rw [hs.out] at hg1
      obtain ⟨⟨dn, dm⟩, hd⟩ : ∃ d, ds.getD k (0, zeros) = d := ⟨_, rfl⟩
      rw [hd] at hdl hdb hdd hrd hs hg1 hds
      have hop := Lib.hid (fun w => oplI_any dn dm hdl hdb hdd w)
      have hol : (opl dn dm).length ≤ 16 := opl_le _ _ (by have : dn = (n : Int) := hds; omega)
      have hdl' := Lib.hid hdl
      obtain ⟨L, hL⟩ : ∃ L, (opl dn dm).length = L := ⟨_, rfl⟩
      unfold OplPost at hop
      rw [hL] at hol hop hs
      simp only [hL] at hg1
      have kI : (k : Int) < (ds.length : Int) := by omega
      have p2 : (2 : Int) ^ ((L : Int)).toNat = ((2 ^ L : Nat) : Int) := by simp
      have p3 : 2 ^ L ≤ 65536 := Nat.le_trans (Nat.pow_le_pow_right (by omega) hol) (by decide)
      have p4 : 0 < 2 ^ L := Nat.pow_pos (by omega)
      have h17 := Lib.hid (show (dcells dn dm).toList.length = 17 from dl17 hdl)
      have hgb : w.heap.size ≤ g := hg
      clear hdl hdb hdd hds hL
      go_wp2_with (first
        | (refine wpList_load_at rfl 30 (.tmp 15) rfl ⟨g, k * 17, none⟩ rfl (dcells dn dm).toList _ hrd.out Try.underlying30 rfl (by rw [h17.out]; kernel_rfl) ?_)
        | (refine wpList_store_own rfl 30 _ _ rfl _ _ rfl rfl 30 _ (Own.new wr _ _) (row26 (d17 _ _ (hdl'.out))) (z_eq (d17 _ _ hdl'.out)) (dcells_one _ _) ?_; intro w2 hO2 hN2)
        | (refine wpList_load_row rfl 30 _ rfl _ rfl 30 _ (0, 0) _ (hO2) Try.underlying30 rfl (row26 (d17 _ _ (hdl'.out))) ?_)
        | (go_at_call 38; ((with_reducible refine (hop.out _).mono ?_); rintro e w3 ⟨g3, cap3, rfl, hM3, hB3⟩)))
      have hsz := hB.size
      have b2 : Below w.heap.size w w2 := (hB.alloc hsz _).trans (hN2.below.mono hsz)
      have b3 := b2.trans (hB3.mono b2.size)
      have s2 : w2.heap.size = wr.heap.size + 1 := by rw [hN2.size]; simp
      have hR2 := ((hR.alloc (.cells zcells 30)).kept (fun g e => hN2.other g (Nat.ne_of_lt (hR.own g e).2.1)))
      have hR3 := hR2.below hB3 (Nat.le_refl _)
      go_roundw
      case rel => exact ⟨k + 1, by omega, by go_num, by rw [hs.out, show (2 : Int) ^ L = ((2 ^ L : Nat) : Int) by simp]; obtain ⟨Z, hZ⟩ : ∃ Z, 2 ^ L = Z := ⟨_, rfl⟩; rw [hZ] at p3 hg1 ⊢; rw [IntWalk.wrap64_in (Z : Int) (by omega), IntWalk.wrap64_in _ (by omega), Int.natCast_add], hR3, b3, by have := hB3.size; omega⟩
      case measure => simp [intOf]; omega
    · have e : k = ds.length := by omega
      subst e
      rw [hall.out]
      clear hR
      go_wp2
      go_ret2
      exact ⟨rfl, hB⟩
set_option maxRecDepth 100000 in
theorem ctbI_bad (n : Int) (h : n < 1 ∨ 8 < n) (w : World) :
    Calls Try.prog 20 #[.int .i64 n] w fun e w' => e = .returned (.tuple #[.int .i64 0, .int .i64 2]) ∧ Below w.heap.size w w' := by
  have hh := Lib.hid h
  clear h
  go_enter Try.func20, Try.ntmps20
  go_wp2_with (first
    | (go_at_call 31; ((with_reducible refine (isSize_f _ _ hh.out).mono ?_); rintro e w0 ⟨rfl, rfl⟩)))
  go_ret2
  exact ⟨rfl, Below.refl _ _⟩
/-- The model's product. -/
def bC (n : Nat) : Nat → Int
  | 0 => 1
  | k + 1 => bC n k * ((n : Int) + ((k : Int) + 1)) / ((k : Int) + 1)
theorem bC_bd (n : Nat) (h1 : 1 ≤ n) (h8 : n ≤ 8) (k : Nat) (hk : k ≤ n) : 1 ≤ bC n k ∧ bC n k ≤ 100000 := by
  have h : n = 1 ∨ n = 2 ∨ n = 3 ∨ n = 4 ∨ n = 5 ∨ n = 6 ∨ n = 7 ∨ n = 8 := by omega
  have h2 : k = 0 ∨ k = 1 ∨ k = 2 ∨ k = 3 ∨ k = 4 ∨ k = 5 ∨ k = 6 ∨ k = 7 ∨ k = 8 := by omega
  rcases h with rfl | rfl | rfl | rfl | rfl | rfl | rfl | rfl <;> rcases h2 with rfl | rfl | rfl | rfl | rfl | rfl | rfl | rfl | rfl <;> first | omega | decide
theorem bC_all (n : Nat) (h1 : 1 ≤ n) (h8 : n ≤ 8) : bC n n = (cS (2 * n) 0 : Nat) := by
  have h : n = 1 ∨ n = 2 ∨ n = 3 ∨ n = 4 ∨ n = 5 ∨ n = 6 ∨ n = 7 ∨ n = 8 := by omega
  rcases h with rfl | rfl | rfl | rfl | rfl | rfl | rfl | rfl <;> decide +kernel
set_option maxRecDepth 100000 in
set_option maxHeartbeats 1000000 in
theorem ctbS_ok (n : Nat) (h1 : 1 ≤ n) (h8 : n ≤ 8) (w : World) :
    Calls Try.prog 19 #[.int .i64 n] w fun e w' => e = .returned (.tuple #[.int .i64 (cS (2 * n) 0 : Nat), .int .i64 0]) ∧ Below w.heap.size w w' := by
  have hall := Lib.hid (bC_all n h1 h8)
  have hbd := Lib.hid (bC_bd n h1 h8)
  obtain ⟨X, hX⟩ : ∃ X, cS (2 * n) 0 = X := ⟨_, rfl⟩
  rw [hX] at hall ⊢
  clear hX
  go_enter Try.func19, Try.ntmps19
  go_wp2_with (first
    | (go_at_call 26; ((with_reducible refine (inS_t _ _ _ _ (by omega) (by omega)).mono ?_); rintro e w0 ⟨rfl, rfl⟩)))
  go_loopw [4, 5] (fun cn i wr => ∃ k : Nat, k ≤ n ∧ i = .int .i64 ((k : Int) + 1) ∧ cn = .int .i64 (bC n k) ∧ wr = w) (fun _ i _ => (n + 1 - intOf i).toNat)
  case atStart => exact ⟨0, by omega, rfl, rfl, rfl⟩
  case round =>
    obtain ⟨k, hk, rfl, rfl, rfl⟩ := hrel
    obtain ⟨b1, b2⟩ := hbd.out k hk
    by_cases hlt : k < n
    · obtain ⟨c1, c2⟩ := hbd.out (k + 1) hlt
      have hs := Lib.hid (show bC n (k + 1) = bC n k * ((n : Int) + ((k : Int) + 1)) / ((k : Int) + 1) from rfl)
      have kI : (k : Int) + 1 ≤ (n : Int) := by omega
      obtain ⟨b, hb⟩ : ∃ b, bC n k = b := ⟨_, rfl⟩
      rw [hb] at hs b1 b2 ⊢
      have m1 : 0 ≤ b * ((n : Int) + ((k : Int) + 1)) := Int.mul_nonneg (by omega) (by omega)
      have m2 : b * ((n : Int) + ((k : Int) + 1)) ≤ 100000 * 17 := Int.mul_le_mul b2 (by omega) (by omega) (by omega)
      have k0 : ¬ (k : Int) + 1 = 0 := by omega
      go_wp2
      go_roundw
      case rel => exact ⟨k + 1, by omega, by go_num, by rw [hs.out], trivial⟩
      case measure => simp [intOf]; omega
    · have e : k = n := by omega
      subst e
      rw [hall.out]
      go_wp2
      go_ret2
      exact ⟨rfl, Below.refl _ _⟩
set_option maxRecDepth 100000 in
theorem ctbS_bad (n : Int) (h : n < 1 ∨ 8 < n) (w : World) :
    Calls Try.prog 19 #[.int .i64 n] w fun e w' => e = .returned (.tuple #[.int .i64 0, .int .i64 2]) ∧ Below w.heap.size w w' := by
  have hh := Lib.hid h
  clear h
  go_enter Try.func19, Try.ntmps19
  go_wp2_with (first
    | (go_at_call 26; ((with_reducible refine (inS_f _ _ _ _ hh.out).mono ?_); rintro e w0 ⟨rfl, rfl⟩)))
  go_ret2
  exact ⟨rfl, Below.refl _ _⟩
theorem ctb_law (n : Int) (w : World) :
    Calls Try.prog 6 #[.int .i64 n] w fun e w' => e = .returned (.bool true) ∧ Below w.heap.size w w' := by
  obtain ⟨x, c, hS, hI⟩ : ∃ (x c : Int), (∀ w, Calls Try.prog 19 #[.int .i64 n] w fun e w' => e = .returned (.tuple #[.int .i64 x, .int .i64 c]) ∧ Below w.heap.size w w') ∧ (∀ w, Calls Try.prog 20 #[.int .i64 n] w fun e w' => e = .returned (.tuple #[.int .i64 x, .int .i64 c]) ∧ Below w.heap.size w w') := by
    by_cases h : 1 ≤ n ∧ n ≤ 8
    · obtain ⟨h1, h2⟩ := h
      obtain ⟨N, rfl⟩ : ∃ N : Nat, n = N := ⟨n.toNat, by omega⟩
      exact ⟨_, _, fun w => ctbS_ok N (by omega) (by omega) w, fun w => ctbI_ok N (by omega) (by omega) w⟩
    · exact ⟨_, _, fun w => ctbS_bad n (by omega) w, fun w => ctbI_bad n (by omega) w⟩
  have hS := Lib.hid hS
  have hI := Lib.hid hI
  go_enter Try.func6, Try.ntmps6
  go_wp2_with (first
    | (go_at_call 19; ((with_reducible refine (hS.out _).mono ?_); rintro e w1 ⟨rfl, hB1⟩))
    | (go_at_call 20; ((with_reducible refine (hI.out _).mono ?_); rintro e w2 ⟨rfl, hB2⟩)))
  go_ret
  exact ⟨rfl, hB1.trans (hB2.mono hB1.size)⟩
end Go.Proofs.Ytpjlienelkflhaa
