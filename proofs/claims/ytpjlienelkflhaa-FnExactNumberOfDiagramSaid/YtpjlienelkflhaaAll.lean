/- The model's list of all diagrams. -/
import Derived.Test.YtpjlienelkflhaaRws
import Derived.Test.YtpjlienelkflhaaSpecC
import Derived.Test.YtpjlienelkflhaaCtb
namespace Go.Proofs.Ytpjlienelkflhaa
open Go.RowKit Go.Lib
set_option linter.unusedVariables false
set_option linter.unusedSimpArgs false
theorem mk0d : ∀ w : World, (Instr.buildSlice 22 0 #[]).run Try.prog w = .ok (.slice (some ⟨w.heap.size, 0, none⟩) 0 0) (w.alloc (.cells #[] 30)) := by
  intro w; kernel_rfl
theorem RowD.new0 (w : World) (base n : Nat) (hb : base ≤ w.heap.size) (hw : w.heap.size = n) : RowD (w.alloc (.cells #[] 30)) base (.slice (some ⟨n, 0, none⟩) 0 0) [] := by
  subst hw
  exact ⟨rfl, .inr ⟨_, 0, #[], rfl, hb, Own.new _ _ _, Nat.le_refl _, by unfold maxLen; omega, rfl, rfl⟩⟩
theorem rowS_ne_rowD {w : World} {base base' : Nat} {u v : Value} {xs : List ByteArray} {ds : List DgR} (hb : RowS w base' u xs) (hr : RowD w base v ds) : ∀ k j, u.ownBlock = some k → v.ownBlock = some j → k ≠ j := by
  intro k j h1 h2 e
  subst e
  obtain ⟨_, _, cs, ho⟩ := hr.own k h2
  obtain ⟨_, _, cu, hu⟩ := hb.own k h1
  have := (show w.heap[k]? = _ from ho).symm.trans hu
  simp at this
set_option maxRecDepth 100000 in
set_option maxHeartbeats 1000000 in
theorem ldS_any (n : Nat) (h1 : 1 ≤ n) (h8 : n ≤ 8) (w : World) :
    Calls Try.prog 27 #[.int .i64 n] w (LdPost n w) := by
  have hmk := mk0d
  have htx := Lib.hid (show ∀ w : World, Calls Try.prog 43 #[.slice none 0 0, .string { data := #[] }, .int .i64 0, .int .i64 n] w (fun e w' => ∃ v', e = .returned v' ∧ RowS w' w.heap.size v' (bsl (dts (2 * n) 0 [])) ∧ Below w.heap.size w w') from fun w => by
    have := txs_any (2 * n + 1) [] 0 n w.heap.size (.slice none 0 0) [] w (by omega) (by omega) (by simp; omega) (RowS.nil _ _) (Nat.le_refl _) (by rw [txs_all]; have := dts_len n h1 h8; simp; omega)
    rw [txs_all] at this
    exact this)
  have hL := Lib.hid (dts_len n h1 h8)
  have hmem := Lib.hid (show ∀ t ∈ dts (2 * n) 0 [], t.length = 2 * n from fun t h => by have := dts_mem _ _ _ _ h; simpa using this)
  have hpos := Lib.hid (show 0 < (dts (2 * n) 0 []).length by have := allD_pos n h1 h8; unfold allD at this; rwa [List.length_map] at this)
  unfold LdPost allD
  obtain ⟨L, hLL⟩ : ∃ L, dts (2 * n) 0 [] = L := ⟨_, rfl⟩
  rw [hLL] at htx hL hmem hpos ⊢
  clear hLL
  go_enter Try.func27, Try.ntmps27
  go_wp2_with (first
    | (go_at_call 43; ((with_reducible refine (htx.out _).mono ?_); rintro e w1 ⟨v1, rfl, hS1, hB1⟩); obtain ⟨g, cap, rfl, hg, hgl⟩ := hS1.at (by unfold bsl; rw [List.length_map]; exact hpos.out)))
  have nL := hL.out
  have nP := hpos.out
  have hbl := Lib.hid (show (bsl L).length = L.length by simp [bsl])
  have b1 : Below w.heap.size w (w1.alloc (.cells #[] 30)) := hB1.alloc hB1.size _
  have nS := hS1.alloc (.cells #[] 30)
  have nD := RowD.new0 w1 w.heap.size _ hB1.size rfl
  rw [hbl.out] at nS ⊢
  go_loopw [4, 5] (fun v i wr => ∃ k : Nat, k ≤ L.length ∧ i = .int .i64 k ∧ RowD wr w.heap.size v ((L.take k).map pD) ∧ RowS wr w.heap.size (.slice (some ⟨g, 0, none⟩) L.length cap) (bsl L) ∧ Below w.heap.size w wr) (fun _ i _ => (L.length - intOf i).toNat)
  case atStart => exact ⟨0, by omega, rfl, by simpa using nD, nS, b1⟩
  case round =>
    clear nS nD b1 hS1 hB1
    obtain ⟨k, hk, rfl, hD, hS, hB⟩ := hrel
    by_cases hlt : k < L.length
    · have hst := Lib.hid (show (L.take (k + 1)).map pD = (L.take k).map pD ++ [pD L[k]] by rw [List.take_add_one, List.getElem?_eq_getElem hlt, List.map_append]; rfl)
      have hS' := hS
      rw [← hbl.out] at hS'
      have hc := hS'.read k (by rw [hbl.out]; exact hlt)
      have hbk : (bsl L).getD k ByteArray.empty = bsv L[k] := by unfold bsl; rw [List.getD_eq_getElem?_getD, List.getElem?_map, List.getElem?_eq_getElem hlt]; rfl
      rw [hbk] at hc
      have htl := hmem.out L[k] (List.getElem_mem hlt)
      obtain ⟨t, ht⟩ : ∃ t, L[k] = t := ⟨_, rfl⟩
      rw [ht] at hst hc htl
      have hkl : ((L.take k).map pD).length < 2097152 := by simp; omega
      obtain ⟨X, hX⟩ : ∃ X, (L.take k).map pD = X := ⟨_, rfl⟩
      rw [hX] at hD hst hkl
      have hmsl := Lib.hid (pD_len t)
      have hSs : (bsv t).size ≤ maxLen := by rw [bsv_size, htl]; unfold maxLen; omega
      have hd := Lib.hid (fun w => (readS_any (bsv t) w hSs).mono fun e w' (hd : DotPost (bsv t) w e w') => show (∃ bb, e = .returned (.tuple #[.agg (dcells (pD t).1 (pD t).2), .bool bb])) ∧ Below w.heap.size w w' from ⟨by rw [hd.1, show (bsv t).data.toList = t from rfl]; unfold pD; cases parse t with | none => exact ⟨false, rfl⟩ | some q => exact ⟨true, rfl⟩, hd.2⟩)
      have hmk := Lib.hid (fun w => mksD (pD t).1 (pD t).2 (pD_len t) w)
      obtain ⟨⟨pn, pm⟩, hpq⟩ : ∃ x, pD t = x := ⟨_, rfl⟩
      rw [hpq] at hd hmk hmsl hst
      have kI : (k : Int) < (L.length : Int) := by omega
      have hsz := hB.size
      obtain ⟨S, hSb⟩ : ∃ S, bsv t = S := ⟨_, rfl⟩
      rw [hSb] at hd hc
      clear hSs hS' hbk ht hX hpq htl hSb
      go_wp2_with (first
        | (go_at_call 30; ((with_reducible refine (hd.out _).mono ?_); rintro e w1 ⟨⟨bb, rfl⟩, hB1⟩); have hD1 := hD.below hB1 (Nat.le_refl _); have hS1 := hS.below hB1 (Nat.le_refl _); have b1 : Below w.heap.size w w1 := hB.trans (hB1.mono hsz))
        | (refine wpList_store_own rfl 30 _ _ rfl _ _ rfl rfl 30 _ (Own.new w1 _ _) (row26 (d17 _ _ (hmsl.out))) (z_eq (d17 _ _ hmsl.out)) (dcells_one _ _) ?_; intro w2 hO2 hN2)
        | (refine wpList_load_row rfl 30 _ rfl _ rfl 30 _ (0, 0) _ (hO2) Try.underlying30 rfl (row26 (d17 _ _ (hmsl.out))) ?_)
        | (refine wpList_mksl rfl 22 (.tmp 26) rfl (.agg (dcells pn pm)) (.slice (some ⟨w2.heap.size, 0, none⟩) 1 1) rfl (hmk.out w2) ?_)
        | (refine wpList_append_rowD rfl (.tmp 25) (.tmp 27) rfl w.heap.size _ X pn pm hmsl.out rfl (((hD1.alloc _).kept (fun g e => hN2.other g (Nat.ne_of_lt (hD1.own g e).2.1))).alloc _) w2.heap.size 1 rfl (Own.new _ _ _) hkl (by have := b1.size; have := hN2.size; simp at this; simp; omega) ?_; intro v3 w3 hR3 hG3))
      have s1 := b1.size
      have s2 : w2.heap.size = w1.heap.size + 1 := by rw [hN2.size]; simp
      have b2 : Below w.heap.size w w2 := (b1.alloc s1 _).trans (hN2.below.mono s1)
      have b3 : Below w.heap.size w w3 := (b2.alloc (by omega) _).grown hG3 (by simp; omega) (fun k e => ((hD1.own k e).1))
      have hS2 := ((hS1.alloc (.cells zcells 30)).kept (fun g e => hN2.other g (Nat.ne_of_lt (hS1.own g e).2.1)))
      have hS3 : RowS w3 w.heap.size (.slice (some ⟨g, 0, none⟩) L.length cap) (bsl L) := (hS2.alloc _).kept (fun j e => by
        have hj := (hS1.own j e).2.1
        exact hG3.block j (by simp; omega) (fun he => rowS_ne_rowD hS1 hD1 j j e he.symm rfl))
      rw [← hst.out] at hR3
      go_roundw
      case rel => exact ⟨k + 1, by omega, by go_num, hR3, hS3, b3⟩
      case measure => simp [intOf]; omega
    · have e : k = L.length := by omega
      subst e
      rw [List.take_length] at hD
      clear hS
      go_wp2
      go_ret
      exact ⟨_, rfl, hD, hB⟩
end Go.Proofs.Ytpjlienelkflhaa
