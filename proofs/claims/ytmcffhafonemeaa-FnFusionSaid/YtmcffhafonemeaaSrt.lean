/- Draws: labels for a theta number. -/
import Derived.Test.YtmcffhafonemeaaSrw
import Derived.Test.YtmcffhafonemeaaOnS
namespace Go.Proofs.Ytmcffhafonemeaa
open Go.RowKit Go.Lib
set_option linter.unusedVariables false
set_option linter.unusedSimpArgs false
theorem Rd.onlyN {w w' : World} {a : Addr} {xs : List Int} {g : Nat} (h : Rd w (some a) xs) (ho : Only g w w') (hg : a.block ≠ g) : Rd w' (some a) xs := by
  refine ⟨fun b e j hj => ?_, fun e => by cases e⟩
  cases e
  have hc := h.cell a rfl j hj
  have : w'.cell? (a.add j) = w.cell? (a.add j) := by
    unfold World.cell?
    have e : (a.add j).block = a.block := by unfold Addr.add; split <;> rfl
    rw [ho.other _ (by rw [e]; exact hg)]
  rw [this]; exact hc
theorem mn_block {w : World} {B : Nat} {a : Addr} {xs : List Int} (h : Mn w B (some a) xs) : B ≤ a.block := by
  rcases h with ⟨h, _⟩ | ⟨g, sp, h, hb, _⟩
  · cases h
  · cases h; exact hb
set_option maxRecDepth 100000 in
set_option maxHeartbeats 4000000 in
theorem dthe_any (pc : Option Addr) (n cp : Nat) (hn : n ≤ 4096) (w : World) (hR : RdB w pc n) :
    Calls Try.prog 5 #[.slice pc n cp] w fun e w' => (∃ p c a b d : Int, e = .returned (.tuple #[.int .i64 p, .int .i64 c, .int .i64 a, .int .i64 b, .int .i64 d]) ∧ okM p c) ∧ Below w.heap.size w w' := by
  have hf := Lib.hid (from_any pc n cp hn w hR)
  have hdr := Lib.hid (fun g w1 hb1 hS1 => draw_any w pc n cp hR hn g w1 hb1 hS1)
  have hlb := Lib.hid (fun g p c hp w1 hb1 hS1 => label_any w pc n cp hR hn g p c hp w1 hb1 hS1)
  have hnx := Lib.hid (fun g (m : Int) (w1 : World) (hb1 : Below w.heap.size w w1) (hS1 : Src w.heap.size w1 g pc n cp) => next_any w pc n cp hR hn g m w1 hb1 hS1)
  have hrr := Lib.hid (fun (p c : Int) (h : 1 ≤ p ∧ p ≤ 101 ∧ -1 ≤ c ∧ c ≤ 101) => show -9223372036854775808 ≤ p ∧ p ≤ 9223372036854775807 from by omega)
  clear hR hn
  go_enter Try.func5, Try.ntmps5
  go_upto_region 5 with (first
    | (go_at_call 11; (obtain ⟨xs, kk, hlx, hfS, hfI⟩ := fus_both p c a b (hrr.out p c hm'.out)); ((with_reducible refine (hfS w4).mono ?_); rintro e w5 ⟨q, qc, rfl, hM5, hB5⟩; clear hfS hfI; have hS5 := hS4.below hB5; have hb5 := hb4.trans (hB5.mono hb4.size); have hg4 := hS4.lt))
    | (go_at_call 26; ((with_reducible refine (hlb.out _ _ _ hm'.out _ hb3 hS3).mono ?_); rintro e w4 ⟨⟨b, rfl, h⟩, hS4, hb4⟩; clear h))
    | (go_at_call 26; ((with_reducible refine (hlb.out _ _ _ hm'.out _ hb2 hS2).mono ?_); rintro e w3 ⟨⟨a, rfl, h⟩, hS3, hb3⟩; clear h))
    | (go_at_call 25; ((with_reducible refine (hdr.out _ _ hb1 hS1).mono ?_); rintro e w2 ⟨⟨p, c, rfl, hm⟩, hS2, hb2⟩; have hm' := Lib.hid hm; clear hm))
    | (go_at_call 24; ((with_reducible refine hf.out.mono ?_); rintro e w1 ⟨⟨g, rfl, hS1⟩, hb1⟩)))
  obtain ⟨l, hl⟩ : ∃ l, xs.length = l := ⟨_, rfl⟩
  have hl' := Lib.hid hl
  rw [hl] at hlx ⊢
  clear hl hf hdr hS1 hS2 hS3 hS4 hb1 hb2 hb3 hB5
  by_cases k0 : kk = 0
  · subst k0
    by_cases l0 : l = 0
    · subst l0
      clear hnx
      go_wp2_with (first
        | (go_at_call 26; ((with_reducible refine (hlb.out _ _ _ hm'.out _ hb5 hS5).mono ?_); rintro e w6 ⟨⟨d, rfl, h⟩, hS6, hb6⟩; clear h)))
      (try simp only [Exit.inBlock, Exit.then])
      refine bodyPost_ret (results_tmp5 rfl _ _ _) rfl ?_
      exact ⟨⟨_, _, _, _, _, rfl, hm'.out⟩, hb6⟩
    · have hl0 : (0 : Int) < (l : Int) := by omega
      obtain ⟨qa, rfl⟩ := rd_some hM5.rd (k := 0) (by have := hl'.out; omega)
      have hqa : qa.block ≠ g := by have := mn_block hM5; omega
      go_wp2_with (first
        | (go_at_call 26; ((with_reducible refine (hlb.out _ _ _ hm'.out _ hb6 hS6).mono ?_); rintro e w7 ⟨⟨d, rfl, h⟩, hS7, hb7⟩; clear h))
        | (go_at_call 27; ((with_reducible refine (hnx.out _ _ _ hb5 hS5).mono ?_); rintro e w6 ⟨⟨x, rfl, h⟩, hS6, hN6⟩; clear h; have hb6 := hb5.trans (hN6.below' hS5.lo); have hR6 := Rd.onlyN hM5.rd hN6 hqa; have hR6' := Lib.hid hR6; clear hR6 hN6)))
      · have hR6 := hR6'.out
        have bd : Below w6.heap.size w6 { w6 with drawn := w6.drawn + 1 } := (Below.refl _ w6).drew
        have hS8 := hS6.below bd
        have hb8 : Below w.heap.size w { w6 with drawn := w6.drawn + 1 } := hb6.drew
        have hR8 := hR6.below bd
        clear hS6 hb6 hR6 hR6' bd hM5 hS5 hb5 hlb
        refine wp_region_st (fun x => Src w.heap.size x g pc n cp ∧ Below w.heap.size w x ∧ Rd x (some qa) xs) [(true, 0), (true, 1), (true, 2), (true, 3), (true, 4), (true, 5), (true, 6), (true, 7), (false, 8), (true, 9), (true, 10), (true, 11), (true, 12), (true, 13), (true, 14)] 15 (by kernel_rfl) (by kernel_rfl) ⟨hS8, hb8, hR8⟩ ?_
        generalize ({ w6 with drawn := w6.drawn + 1 } : World) = w8 at *
        simp only [List.map_cons, List.map_nil, opS'_mk, opN_zero, opN_succ, List.drop_succ_cons, List.drop_zero]
        iterate 8 (apply wpSt_read; · (intro wd hS K hK; clear hS; go_simp; exact hK))
        refine wpSt_keep (fun K hK => ?_)
        have hR8' := Lib.hid hR8
        clear hR8
        go_wp2_with (first
          | (go_at_call 27; ((with_reducible refine (hnx.out _ _ _ hb8 hS8).mono ?_); rintro e w9 ⟨⟨y, rfl, y0, y1, y2⟩, hS9, hN9⟩; have hb9 := hb8.trans (hN9.below' hS8.lo); have hR9 := Rd.onlyN hR8'.out hN9 hqa)))
        refine hK _ _ ⟨hS9, hb9, hR9⟩ rfl ?_
        clear hK K
        obtain ⟨k, rfl⟩ : ∃ k : Nat, y = (k : Int) := ⟨y.toNat, by omega⟩
        have kx : (k : Int) < (l : Int) := y1 (by omega)
        have km : k < l := by omega
        have hkl := Lib.hid (show k < xs.length from by have := hl'.out; omega)
        obtain ⟨v, hv⟩ : ∃ v, xs.getD k 0 = v := ⟨_, rfl⟩
        clear y0 y1 y2 hR9 hS9 hN9 hR8' hS8 hnx
        (apply wpSt_read; · (intro wd hS K hK; clear hS; go_simp; exact hK))
        (apply wpSt_read; · (intro wd hS K hK; have yc : wd.cell? (qa.add k) = some (.int .i64 v) := (by rw [← hv]; exact hS.2.2.cell qa rfl k hkl.out); clear hS; go_simp; exact hK))
        iterate 4 (apply wpSt_read; · (intro wd hS K hK; clear hS; go_simp; exact hK))
        refine wpSt_nil ?_
        go_wp2
        (try simp only [Exit.inBlock, Exit.then])
        refine bodyPost_ret (results_tmp5 rfl _ _ _) rfl ?_
        exact ⟨⟨_, _, _, _, _, rfl, hm'.out⟩, hb9⟩
      · (try simp only [Exit.inBlock, Exit.then])
        refine bodyPost_ret (results_tmp5 rfl _ _ _) rfl ?_
        exact ⟨⟨_, _, _, _, _, rfl, hm'.out⟩, hb7⟩
  · have hk0 : (kk == 0) = false := by simp [k0]
    clear hnx
    go_wp2_with (first
      | (go_at_call 26; ((with_reducible refine (hlb.out _ _ _ hm'.out _ hb5 hS5).mono ?_); rintro e w6 ⟨⟨d, rfl, h⟩, hS6, hb6⟩; clear h)))
    (try simp only [Exit.inBlock, Exit.then])
    refine bodyPost_ret (results_tmp5 rfl _ _ _) rfl ?_
    exact ⟨⟨_, _, _, _, _, rfl, hm'.out⟩, hb6⟩
end Go.Proofs.Ytmcffhafonemeaa
