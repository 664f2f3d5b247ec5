/- NumberOfDiagram: the program's map of numbers. -/
import Derived.Test.YtpjlienelkflhaaNky
namespace Go.Proofs.Ytpjlienelkflhaa
open Go.RowKit Go.Lib
open Go.Maps (Keyed)
set_option linter.unusedVariables false
set_option linter.unusedSimpArgs false
theorem mkMap (l : Nat) : ∀ w : World, (Instr.makeMap 55 (some (.int .i64 (l : Int)))).run Try.prog w = .ok (.map (some w.heap.size)) (w.alloc (.map #[] 0)) := by
  intro w; kernel_rfl
def NbPost (n : Nat) (w : World) (e : Ending) (w' : World) : Prop := ∃ b, e = .returned (.map (some b)) ∧ w'.ownsMap (H := Unit) Try.prog 30 (plainElem Try.prog 2) b (allD n).length (mpD (allD n) (allD n).length) ∧ Below w.heap.size w w'
set_option maxRecDepth 100000 in
set_option maxHeartbeats 2000000 in
theorem nbI_any (n : Nat) (h1 : 1 ≤ n) (h8 : n ≤ 8) (w : World) : Calls Try.prog 37 #[.int .i64 n] w (NbPost n w) := by
  have hld := Lib.hid (fun w => ldI_any n h1 h8 w)
  have hget := Lib.hid (fun k (hk : k < (allD n).length) => And.intro (allD_get n h1 h8 k hk).len (kyD_of (allD_get n h1 h8 k hk) (by omega)))
  have h16 := Lib.hid (allD_16 n)
  have hpos := Lib.hid (allD_pos n h1 h8)
  have hlen := Lib.hid (allD_len n h1 h8)
  unfold LdPost at hld
  unfold NbPost
  obtain ⟨ds, hds⟩ : ∃ ds, allD n = ds := ⟨_, rfl⟩
  rw [hds] at hld hget h16 hpos hlen ⊢
  clear hds
  have hmk := mkMap ds.length
  go_enter Try.func37, Try.ntmps37
  go_wp2_with (first
    | (go_at_call 28; ((with_reducible refine (hld.out _).mono ?_); rintro e w1 ⟨v1, rfl, hR1, hB1⟩); obtain ⟨g, cap, rfl, hg, hgl⟩ := hR1.at h16.out hpos.out))
  have nP := hpos.out
  have nL := hlen.out
  obtain ⟨b, hb⟩ : ∃ b, w1.heap.size = b := ⟨_, rfl⟩
  have nM : (w1.alloc (.map #[] 0)).ownsMap (H := Unit) Try.prog 30 (plainElem Try.prog 2) b 0 (mpD ds 0) := by rw [← hb]; exact World.ownsMap_made w1 _ _ _
  have nB : Below w.heap.size w (w1.alloc (.map #[] 0)) := hB1.alloc hB1.size _
  have nD : RowD (w1.alloc (.map #[] 0)) w.heap.size (.slice (some ⟨g, 0, none⟩) ds.length cap) ds := hR1.alloc _
  have hbb : w.heap.size ≤ b := by rw [← hb]; exact hB1.size
  have hgb : g ≠ b := by omega
  rw [hb]
  clear hR1 hB1 hgl hg hb
  go_loopw [14] (fun i wr => ∃ k : Nat, k ≤ ds.length ∧ i = .int .i64 k ∧ wr.ownsMap (H := Unit) Try.prog 30 (plainElem Try.prog 2) b k (mpD ds k) ∧ RowD wr w.heap.size (.slice (some ⟨g, 0, none⟩) ds.length cap) ds ∧ Below w.heap.size w wr) (fun i _ => (ds.length - intOf i).toNat)
  case atStart => exact ⟨0, by omega, rfl, nM, nD, nB⟩
  case round =>
    clear nM nD nB
    obtain ⟨k, hk, rfl, hM, hR, hB⟩ := hrel
    by_cases hlt : k < ds.length
    · have hrd := Lib.hid (hR.read h16.out k hlt)
      obtain ⟨hdl, hky⟩ := hget.out k hlt
      have hst := Lib.hid (show mpD ds (k + 1) = (mpD ds k).put (kyD (ds.getD k (0, zeros))) (.lit (.int .i64 k)) from rfl)
      obtain ⟨⟨dn, dm⟩, hd⟩ : ∃ d, ds.getD k (0, zeros) = d := ⟨_, rfl⟩
      rw [hd] at hdl hky hrd hst
      obtain ⟨kl, hkl⟩ : ∃ kl, kyD (dn, dm) = kl := ⟨_, rfl⟩
      rw [hkl] at hky hst
      have hky' := Lib.hid hky
      have hl := Lib.hid (show dm.length = 16 from hdl)
      have h17 := Lib.hid (show (dcells dn dm).toList.length = 17 from dl17 hl.out)
      have kI : (k : Int) < (ds.length : Int) := by omega
      have hws := hB.size
      have hbl := hM.lt
      have hpe := Lib.hid (plainElem_int (H := Unit) (P := Try.prog) (e := 2) Try.underlying2 (WalkArith.wf_i64 (n := (k : Int)) (by omega)))
      have knm : k < maxLen := by unfold maxLen; omega
      clear hdl hky hd hkl
      go_wp2_with (first
        | (refine wpList_load_at rfl 30 (.tmp 17) rfl ⟨g, k * 17, none⟩ rfl (dcells dn dm).toList _ hrd.out Try.underlying30 rfl (by rw [h17.out]; kernel_rfl) ?_)
        | ((refine wpList_store_own rfl 30 _ _ rfl _ _ rfl rfl 30 _ (Own.new wr _ _) (row26 (d17 _ _ (hl.out))) (z_eq (d17 _ _ hl.out)) (dcells_one _ _) ?_; intro w2 hO2 hN2); have hM2 : w2.ownsMap (H := Unit) Try.prog 30 (plainElem Try.prog 2) b k (mpD ds k) := (by obtain ⟨es, clock, hh, r⟩ := hM.alloc (.cells zcells 30); exact ⟨es, clock, by rw [hN2.other b (by omega)]; exact hh, r⟩); have hR2 := ((hR.alloc (.cells zcells 30)).kept (fun g e => hN2.other g (Nat.ne_of_lt (hR.own g e).2.1))); have b2 : Below w.heap.size w w2 := (hB.alloc hws _).trans (hN2.below.mono hws))
        | (refine wpList_load_row rfl 30 _ rfl _ rfl 30 _ (0, 0) _ (hO2) Try.underlying30 rfl (row26 (d17 _ _ (hl.out))) ?_)
        | (at_mapUpdate; refine wpList_mapUpdate_own _ rfl _ _ _ 55 rfl 30 2 keyedD Try.underlying55 _ b k _ rfl hM2 knm _ _ kl rfl rfl hky'.out _ _ hpe.out ?_; intro w3 hM3 hG3))
      have hR3 : RowD w3 w.heap.size (.slice (some ⟨g, 0, none⟩) ds.length cap) ds := hR2.grown hG3 (fun j e => by have e' : some g = some j := e; injection e' with e'; omega)
      have b3 : Below w.heap.size w w3 := b2.grown hG3 b2.size (fun j e => by injection e with e; omega)
      rw [← hst.out] at hM3
      go_roundw
      case rel => exact ⟨k + 1, by omega, by go_num, hM3, hR3, b3⟩
      case measure => simp [intOf]; omega
    · have e : k = ds.length := by omega
      subst e
      clear hR
      go_wp2
      go_ret
      exact ⟨b, rfl, hM, hB⟩
end Go.Proofs.Ytpjlienelkflhaa
