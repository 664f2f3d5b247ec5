/- The model's AllBlobbed; both without a size. -/
import Derived.Test.YtpjlienelkflhaaAbl
namespace Go.Proofs.Ytpjlienelkflhaa
open Go.RowKit Go.Lib
set_option linter.unusedVariables false
set_option linter.unusedSimpArgs false
set_option maxRecDepth 100000 in
set_option maxHeartbeats 2000000 in
theorem ablS_ok (n : Nat) (h1 : 1 ≤ n) (h4 : n ≤ 4) (w : World) : Calls Try.prog 21 #[.int .i64 n] w (AblPost n w) := by
  have hmk := mk0l
  have hld := Lib.hid (fun w => ldS_any n h1 (by omega) w)
  have hget := Lib.hid (allD_get n h1 (by omega))
  have hbl := Lib.hid (bls_len n h1 (by omega))
  have h16 := Lib.hid (allD_16 n)
  have hpos := Lib.hid (allD_pos n h1 (by omega))
  have hlen := Lib.hid (allD_14 n h1 h4)
  unfold LdPost at hld
  unfold AblPost
  obtain ⟨ds, hds⟩ : ∃ ds, allD n = ds := ⟨_, rfl⟩
  rw [hds] at hld hget hbl h16 hpos hlen ⊢
  clear hds
  go_enter Try.func21, Try.ntmps21
  go_wp2_with (first
    | (go_at_call 26; ((with_reducible refine (inS_t _ _ _ _ (by omega) (by omega)).mono ?_); rintro e w0 ⟨rfl, rfl⟩))
    | (go_at_call 27; ((with_reducible refine (hld.out _).mono ?_); rintro e w1 ⟨v1, rfl, hR1, hB1⟩); obtain ⟨g, cap, rfl, hg, hgl⟩ := hR1.at h16.out hpos.out))
  have nP := hpos.out
  have nL := hlen.out
  have nB : Below w.heap.size w (w1.alloc (.cells #[] 64)) := hB1.alloc hB1.size _
  have nR := RowL.new0 w1 w.heap.size _ hB1.size rfl
  have nD : RowD (w1.alloc (.cells #[] 64)) w.heap.size (.slice (some ⟨g, 0, none⟩) ds.length cap) ds := hR1.alloc _
  clear hR1 hB1 hgl hg
  go_loopw [5, 6] (fun v i wr => ∃ k : Nat, k ≤ ds.length ∧ i = .int .i64 k ∧ RowL wr w.heap.size v (bls (ds.take k)) ∧ RowD wr w.heap.size (.slice (some ⟨g, 0, none⟩) ds.length cap) ds ∧ Below w.heap.size w wr) (fun _ i _ => (ds.length - intOf i).toNat)
  case atStart => exact ⟨0, by omega, rfl, nR, nD, nB⟩
  case round =>
    clear nR nD nB
    obtain ⟨k, hk, rfl, hL, hR, hB⟩ := hrel
    by_cases hlt : k < ds.length
    · obtain ⟨hsz, hdl, hdb, hdd⟩ := hget.out k hlt
      have hrd := Lib.hid (hR.read h16.out k hlt)
      have hre := Lib.hid (show ∀ x : World, RowD x w.heap.size (.slice (some ⟨g, 0, none⟩) ds.length cap) ds → ∀ j u, (dcells (ds.getD k (0, zeros)).1 (ds.getD k (0, zeros)).2).toList[j]? = some u → x.cell? ((⟨g, k * 17, none⟩ : Addr).add j) = some u from fun x h => h.read h16.out k hlt)
      have hbk := hbl.out k hk
      obtain ⟨⟨dn, dm⟩, hd⟩ : ∃ d, ds.getD k (0, zeros) = d := ⟨_, rfl⟩
      have hst := Lib.hid (bls_succ ds k hlt dn dm hd)
      rw [hd] at hdl hdb hdd hrd hsz hre
      have hnet := net_of dn dm hdl hdb hdd
      have hop := Lib.hid (fun w => olS_ok dn dm hdl hdb hdd w)
      have hok := Lib.hid (opl_ok hnet)
      have hol : (opl dn dm).length ≤ 16 := opl_le _ _ hnet.bd.2
      have hop0 := opl_pos hnet
      have hl := Lib.hid (show dm.length = 16 from hdl)
      have hap := Lib.hid (fun sp g cap v w' (a : Own w' g (scells (opl dn dm) sp) 2) (b : RowL w' w.heap.size v (bls (ds.take k))) (c : w.heap.size ≤ w'.heap.size) => fillS_any dn dm hdl (opl dn dm) sp g cap hok.out hol (opl dn dm).length 0 w.heap.size zbs v (bls (ds.take k)) w' (by omega) zbsl a b c (by
        have : 2 ^ (opl dn dm).length ≤ 2 ^ 16 := Nat.pow_le_pow_right (by omega) hol
        have h0 := hlen.out
        omega))
      simp only [List.drop_zero] at hap
      unfold FilPost at hap
      unfold ResI at hop
      obtain ⟨P, hP⟩ : ∃ P, opl dn dm = P := ⟨_, rfl⟩
      rw [hP] at hop hap hst hol hop0
      have hap := Lib.hid (show ∀ sp g cap v w', Own w' g (scells P sp) 2 → RowL w' w.heap.size v (bls (ds.take k)) → w.heap.size ≤ w'.heap.size → Calls Try.prog 40 #[v, .agg (bcl dn dm zbs), .slice (some ⟨g, 0, none⟩) P.length cap, .int .i64 0] w' _ from hap.out)
      obtain ⟨Y, hY⟩ : ∃ Y, bls (ds.take k) = Y := ⟨_, rfl⟩
      rw [hY] at hap hst hL
      have kI : (k : Int) < (ds.length : Int) := by omega
      have h17 := Lib.hid (show (dcells dn dm).toList.length = 17 from dl17 hl.out)
      have hws := hB.size
      clear hdl hdb hdd hd hP hnet hok hbk hsz hY
      go_wp2_with (first
        | (refine wpList_load_at rfl 30 (.tmp 25) rfl ⟨g, k * 17, none⟩ rfl (dcells dn dm).toList _ hrd.out Try.underlying30 rfl (by rw [h17.out]; kernel_rfl) ?_)
        | (refine wpList_load_at rfl 30 (.tmp 24) rfl ⟨g, k * 17, none⟩ rfl (dcells dn dm).toList _ hrd.out Try.underlying30 rfl (by rw [h17.out]; kernel_rfl) ?_)
        | (refine wpList_load_at rfl 30 (.tmp 32) rfl ⟨g, k * 17, none⟩ rfl (dcells dn dm).toList _ hrd4.out Try.underlying30 rfl (by rw [h17.out]; kernel_rfl) ?_)
        | (refine wpList_build_of rfl 64 #[(0, .tmp 33)] rfl (bcl dn dm zbs) ?_ ?_; (exact builtB1 _ _ hl.out))
        | (go_at_call 39; ((with_reducible refine (hop.out wr).mono ?_); rintro e w4 ⟨p4, c4, rfl, hP4, hB4⟩); have hL4 := hL.below hB4 (Nat.le_refl _); have hR4 := hR.below hB4 (Nat.le_refl _); have b4 : Below w.heap.size w w4 := hB.trans (hB4.mono hws); have hrd4 := Lib.hid (hre.out w4 hR4); obtain ⟨g4, sp, rfl, hg4, hO4⟩ : ∃ g4 sp, p4 = some ⟨g4, 0, none⟩ ∧ wr.heap.size ≤ g4 ∧ Own w4 g4 (scells P sp) 2 := (by rcases hP4 with ⟨_, e⟩ | h; exact absurd (congrArg List.length e) (by simp; intro h; rw [h] at hop0; simp at hop0); exact h))
        | (go_at_call 40; ((with_reducible refine (hap.out sp g4 c4 u5 w4 hO4 hL4 b4.size).mono ?_); rintro e w5 ⟨v5, rfl, hL5, hF5, hB5⟩)))
      have hR5 := hR4.fram hF5 hL4
      rw [← hst.out] at hL5
      go_roundw
      case rel => exact ⟨k + 1, by omega, by go_num, hL5, hR5, b4.trans hB5⟩
      case measure => simp [intOf]; omega
    · have e : k = ds.length := by omega
      subst e
      rw [List.take_length] at hL
      clear hR
      go_wp2
      go_ret2
      exact ⟨_, rfl, hL, hB⟩
theorem ablI_bad (n : Int) (h : n < 1 ∨ 4 < n) (w : World) : Calls Try.prog 22 #[.int .i64 n] w fun e w' => e = .returned (.tuple #[.slice none 0 0, .int .i64 2]) ∧ Below w.heap.size w w' := by
  rcases h with h | h
  · go_enter Try.func22, Try.ntmps22
    go_wp2
    go_ret2
    exact ⟨rfl, Below.refl _ _⟩
  · have h1 : ¬ n < 1 := by omega
    go_enter Try.func22, Try.ntmps22
    go_wp2
    go_ret2
    exact ⟨rfl, Below.refl _ _⟩
theorem ablS_bad (n : Int) (h : n < 1 ∨ 4 < n) (w : World) : Calls Try.prog 21 #[.int .i64 n] w fun e w' => e = .returned (.tuple #[.slice none 0 0, .int .i64 2]) ∧ Below w.heap.size w w' := by
  have hh := Lib.hid h
  clear h
  go_enter Try.func21, Try.ntmps21
  go_wp2_with (first
    | (go_at_call 26; ((with_reducible refine (inS_f _ _ _ _ hh.out).mono ?_); rintro e w0 ⟨rfl, rfl⟩)))
  go_ret2
  exact ⟨rfl, Below.refl _ _⟩
end Go.Proofs.Ytpjlienelkflhaa
