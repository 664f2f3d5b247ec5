/- Lists that have each number once: the program's reading. -/
import Derived.Test.YtbpecjfiilkobaaMeN
import Derived.Test.YtbpecjfiilkobaaSl
import Derived.Test.YtbpecjfiilkobaaBl
namespace Go.Proofs.Ytbpecjfiilkobaa
open Go.RowKit
set_option linter.unusedVariables false
set_option linter.unusedSimpArgs false
theorem infoB : (Try.prog.info? 4).map (fun i => (i.zero, i.size, i.bytes)) = some (some (.bool false), 1, 1) := by kernel_rfl
theorem madeB (n : Nat) : madeCells #[Value.bool false] n = bcells (List.replicate n false) := by
  apply Array.toList_inj.1
  unfold madeCells bcells
  simp only [Array.toList_map, Array.toList_range, List.map_replicate]
  apply List.ext_getElem?
  intro i
  rw [List.getElem?_map, List.getElem?_replicate]
  by_cases h : i < n
  · rw [List.getElem?_range h, if_pos h]
    simp [Nat.mod_one]
  · rw [if_neg h, List.getElem?_eq_none (by simpa using h)]; rfl
theorem makeBo (n : Nat) (hn : n ≤ 1048576) : ∀ w : World, (Instr.makeSlice 44 (.int .i64 n) (.int .i64 n)).run Try.prog w = .ok (.slice (some ⟨w.heap.size, 0, none⟩) n n) (w.alloc (.cells (bcells (List.replicate n false)) 4)) := by
  intro w
  obtain ⟨i0, hi0, hz0, hz1, hz2⟩ := info_parts infoB
  have := run_make w 44 4 i0 (.bool false) Try.underlying44 hi0 hz0 .i64 .i64 (n : Int) (n : Int) (by omega) (by omega) (by rw [hz2]; omega) (by omega)
  rw [this, hz1]
  simp only [Int.toNat_natCast, Nat.mul_one]
  rw [← madeB]
  rfl
set_option maxRecDepth 100000 in
set_option maxHeartbeats 1000000 in
theorem eachI_any (p : Option Addr) (cap : Nat) (xs : List Int) (n : Nat) (hn : xs.length = n) (hx : n ≤ 1048576) (w : World) (hR : Rd w p xs) :
    Calls Try.prog 16 #[.slice p n cap] w fun e w' => e = .returned (.bool (eachN n xs (List.replicate n false))) ∧ Below w.heap.size w w' := by
  obtain ⟨b, hb⟩ : ∃ b, eachN n xs (List.replicate n false) = b := ⟨_, rfl⟩
  rw [hb]
  have hb' := Lib.hid hb
  have hR' := Lib.hid hR
  have hN := Lib.hid hn
  have hmk := makeBo n hx
  clear hb hR hn
  go_enter Try.func16, Try.ntmps16
  go_wp2
  clear hmk
  go_loopw [13] (fun i wr => ∃ (k : Nat) (mb : List Bool), k ≤ n ∧ i = .int .i64 k ∧ Hid (mb.length = n) ∧ Hid (eachN n (xs.drop k) mb = b) ∧ Own wr w.heap.size (bcells mb) 4 ∧ Below w.heap.size w wr) (fun i _ => ((n : Int) - intOf i).toNat)
  case atStart => exact ⟨0, _, by omega, rfl, Lib.hid (by simp), by simpa using hb', Own.new _ _ _, (Below.refl _ _).alloc (Nat.le_refl _) _⟩
  case round =>
    obtain ⟨k, mb, hk, rfl, hml, hD, hO, hB⟩ := hrel
    by_cases hlt : k < n
    · have hks : k < xs.length := by have := hN.out; omega
      obtain ⟨a, rfl⟩ := rd_some hR'.out hks
      have c1 := (hR'.out.below hB).cell a rfl k hks
      have hst := drop_step xs k hks
      obtain ⟨x, hxx⟩ : ∃ x, xs.getD k 0 = x := ⟨_, rfl⟩
      rw [hxx] at c1 hst
      have hD2 := Lib.hid (show (if 0 ≤ x ∧ x < n ∧ mb.getD x.toNat true = false then eachN n (xs.drop (k + 1)) (mb.set x.toNat true) else false) = b by rw [← hD.out, hst]; rfl)
      have i1 : (k : Int) < (n : Int) := by omega
      clear hst hxx hD
      by_cases g : 0 ≤ x ∧ x < n
      · obtain ⟨g1, g2⟩ := g
        have k1 := hO.cell x.toNat
        rw [bcells_get _ _ (by rw [hml.out]; omega)] at k1
        obtain ⟨t, ht⟩ : ∃ t, mb.getD x.toNat true = t := ⟨_, rfl⟩
        rw [ht] at k1
        cases t with
        | true =>
          have hbf : b = false := by rw [← hD2.out, if_neg (by rw [ht]; simp)]
          subst hbf
          clear ht
          go_wp2
          go_ret
          exact ⟨rfl, hB⟩
        | false =>
          have hD3 := Lib.hid (show eachN n (xs.drop (k + 1)) (mb.set x.toNat true) = b by rw [← hD2.out, if_pos ⟨g1, g2, ht⟩])
          have f1 := hO.free x.toNat
          have hO2 := hO.set x.toNat (.bool true)
          rw [bcells_set] at hO2
          have K1 := Lib.hid hO2
          have hB2 := hB.setCell (p := ⟨w.heap.size, x.toNat, none⟩) (by simp) (.bool true)
          have K2 := Lib.hid (show (mb.set x.toNat true).length = n by rw [List.length_set]; exact hml.out)
          clear hO2 ht hO
          go_wp2
          go_roundw
          case rel => exact ⟨k + 1, _, by omega, by go_num, K2, hD3, K1.out, hB2⟩
          case measure => simp [intOf]; omega
      · have hbf : b = false := by rw [← hD2.out, if_neg (fun h => g ⟨h.1, h.2.1⟩)]
        subst hbf
        by_cases g1 : x < 0
        · go_wp2
          go_ret
          exact ⟨rfl, hB⟩
        · have g2 : (n : Int) ≤ x := by omega
          clear g
          go_wp2
          go_ret
          exact ⟨rfl, hB⟩
    · have hk2 : k = n := by omega
      subst hk2
      have hbt : b = true := by rw [← hD.out, List.drop_eq_nil_of_le (by have := hN.out; omega)]; rfl
      subst hbt
      go_wp2
      go_ret
      exact ⟨rfl, hB⟩
end Go.Proofs.Ytbpecjfiilkobaa
