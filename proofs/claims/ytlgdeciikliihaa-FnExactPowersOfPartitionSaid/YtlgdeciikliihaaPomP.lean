/- Contracts of the program's parts of points with pointers as marks. -/
import Derived.Test.YtlgdeciikliihaaPtr
namespace Go.Proofs.Ytlgdeciikliihaa
open Go.RowKit
set_option linter.unusedVariables false

set_option maxRecDepth 100000 in
set_option maxHeartbeats 1000000 in
/-- The first place of a mark. -/
theorem idxP_any (a0 b0 : Nat) (nx : List Int) (b o c : Nat) (xs : List Int) (x : Int) (w : World) (hl : xs.length ≤ 1000000) (hN0 : Nod a0 b0 nx w) (hx0 : 0 ≤ x) (hx2 : x < 16) (hxs : ∀ k, k < xs.length → 0 ≤ xs.getD k 0 ∧ xs.getD k 0 < 16) (hR : Rdf (pv a0 b0) w b o xs) :
    Calls Try.prog 87 #[.slice (some ⟨b, o, none⟩) xs.length c, .pointer (some ⟨nb a0 b0 x, no x, none⟩)] w fun e w' => e = .returned (.int .i64 (if fi xs x < xs.length then (fi xs x : Int) else -1)) ∧ w = w' := by
  obtain ⟨n, hn⟩ : ∃ n, xs.length = n := ⟨_, rfl⟩
  have hN := Lib.hid hn
  have hR' := Lib.hid hR
  have hge := Lib.hid (fi_ge xs x)
  have heq := Lib.hid (fi_eq xs x)
  obtain ⟨r, hr⟩ : ∃ r : Int, (if fi xs x < xs.length then (fi xs x : Int) else -1) = r := ⟨_, rfl⟩
  have hr' := Lib.hid hr
  rw [hr]
  rw [hn] at hl ⊢
  have hN0' := Lib.hid hN0
  have hxs' := Lib.hid hxs
  clear hR hn hr hN0 hxs
  go_enter Try.func87, Try.ntmps87
  go_wp2
  go_loopw [4, 5, 8] (fun r _ i wr => ∃ k : Nat, k ≤ n ∧ i = .int .i64 k ∧ r = .int .i64 0 ∧ Hid (∀ j, j < k → xs.getD j 0 ≠ x) ∧ w = wr) (fun _ _ i _ => ((n : Int) - intOf i).toNat)
  case atStart => exact ⟨0, by omega, rfl, rfl, Lib.hid (fun j hj => absurd hj (Nat.not_lt_zero _)), rfl⟩
  case round =>
    obtain ⟨k, hk, rfl, rfl, hH, rfl⟩ := hrel
    by_cases hlt : k < n
    · have c1 := hR'.out k (by rw [hN.out]; exact hlt)
      have i1 : (k : Int) < (n : Int) := by omega
      obtain ⟨y0, y2⟩ := hxs'.out k (by rw [hN.out]; exact hlt)
      have hq := eqlPb hN0'.out x _ hx0 hx2 y0 y2
      rw [pv_some _ _ _ y0] at c1
      by_cases he : xs.getD k 0 = x
      · have e1 := Lib.hid (heq.out k (by rw [hN.out]; exact hlt) he hH.out)
        have hn' := Lib.hid (show (k : Int) = r by rw [← hr'.out, e1.out, if_pos (by rw [hN.out]; exact hlt)])
        rw [he] at c1 hq
        have hdd : decide (x = x) = true := by simp
        rw [hdd] at hq
        clear he hdd
        generalize nb a0 b0 x = Bx at *
        generalize no x = Ox at *
        go_wp2
        go_ret
        exact ⟨by rw [hn'.out]; rfl, rfl⟩
      · have hst := Lib.hid (show ∀ j, j < k + 1 → xs.getD j 0 ≠ x from fun j hj => by
          by_cases e : j = k
          · rw [e]; exact he
          · exact hH.out j (by omega))
        generalize xs.getD k 0 = y at *
        have hdd : decide (x = y) = false := by simpa using fun e : x = y => he e.symm
        rw [hdd] at hq
        clear hH he hdd
        generalize nb a0 b0 x = Bx at *
        generalize no x = Ox at *
        generalize nb a0 b0 y = By at *
        generalize no y = Oy at *
        go_wp2
        go_roundw
        case rel => exact ⟨k + 1, by omega, by go_num, rfl, hst, trivial⟩
        case measure => simp [intOf]; omega
    · obtain rfl : k = n := by omega
      have hn' := Lib.hid (show (-1 : Int) = r by rw [← hr'.out]; have := hge.out k (by rw [hN.out]; exact Nat.le_refl _) hH.out; have := hN.out; rw [if_neg (by omega)])
      go_wp2
      go_ret
      exact ⟨by rw [hn'.out]; rfl, rfl⟩

set_option maxRecDepth 100000 in
theorem conP_any (a0 b0 : Nat) (nx : List Int) (b o c : Nat) (xs : List Int) (x : Int) (w : World) (hl : xs.length ≤ 1000000) (hN0 : Nod a0 b0 nx w) (hx0 : 0 ≤ x) (hx2 : x < 16) (hxs : ∀ k, k < xs.length → 0 ≤ xs.getD k 0 ∧ xs.getD k 0 < 16) (hR : Rdf (pv a0 b0) w b o xs) :
    Calls Try.prog 58 #[.slice (some ⟨b, o, none⟩) xs.length c, .pointer (some ⟨nb a0 b0 x, no x, none⟩)] w fun e w' => e = .returned (.bool (decide (fi xs x < xs.length))) ∧ w = w' := by
  have h := Lib.hid (idxP_any a0 b0 nx b o c xs x w hl hN0 hx0 hx2 hxs hR)
  generalize nb a0 b0 x = Bx at *
  generalize no x = Ox at *
  obtain ⟨n, hn⟩ : ∃ n, xs.length = n := ⟨_, rfl⟩
  rw [hn] at hl h ⊢
  by_cases hc : fi xs x < n
  · rw [if_pos hc] at h
    have e : decide (fi xs x < n) = true := by simp [hc]
    rw [e]
    generalize fi xs x = f at *
    clear hR hxs hN0 hn e
    go_enter Try.func58, Try.ntmps58
    go_wp2_with (first
      | (go_at_call 87; ((with_reducible refine (h.out).mono ?_); rintro e w1 ⟨rfl, rfl⟩)))
    go_ret
    exact ⟨rfl, rfl⟩
  · rw [if_neg hc] at h
    have e : decide (fi xs x < n) = false := by simp [hc]
    rw [e]
    clear hR hxs hN0 hn e
    go_enter Try.func58, Try.ntmps58
    go_wp2_with (first
      | (go_at_call 87; ((with_reducible refine (h.out).mono ?_); rintro e w1 ⟨rfl, rfl⟩)))
    go_ret
    exact ⟨rfl, rfl⟩

set_option maxRecDepth 100000 in
set_option maxHeartbeats 1000000 in
theorem pomP_any (a0 b0 : Nat) (nx : List Int) (b o c N : Nat) (m : Int) (xs : List Int) (w : World) (hl : xs.length = N) (h8 : N ≤ 8) (hm : (N : Int) = 2 * m) (hN0 : Nod a0 b0 nx w) (hxs : ∀ k, k < xs.length → 0 ≤ xs.getD k 0 ∧ xs.getD k 0 < 16) (hb : b < w.heap.size) (hR : Rdf (pv a0 b0) w b o xs) :
    Calls Try.prog 59 #[.slice (some ⟨b, o, none⟩) N c] w fun e w' => e = .returned (.agg (dcells m (told xs))) ∧ Below w.heap.size w w' := by
  have hN := Lib.hid hl
  have hR' := Lib.hid hR
  have hq : (N : Int) / 2 = m := by omega
  have hm' := Lib.hid hm
  have hN0' := Lib.hid (fun wx (hB : Below w.heap.size w wx) => hN0.below hB hN0.oa.lt hN0.ob.lt)
  have hxs' := Lib.hid hxs
  clear hR hl hm hN0 hxs
  go_enter Try.func59, Try.ntmps59
  go_wp2_with (first
    | (refine wpList_build_of rfl 31 #[(0, .tmp 10)] rfl (dcells m zer8) ?_ ?_; (exact builtP1 m))
    | (refine wpList_store_own rfl 31 _ _ rfl _ _ rfl rfl 31 _ (Own.at _ _ _ (by first | rfl | simp)) (rowP (d9 _ _ (zlen8))) (by rw [d9 _ _ zlen8]; rfl) (dcells_one _ _) ?_; intro w1 hO1 hN1))
  have hR1 : Own w1 w.heap.size zp 31 := ((Own.new _ _ _).alloc _).only hN1 (by simp <;> omega)
  have hB1 : Below w.heap.size w w1 := (((Below.refl _ _).alloc (Nat.le_refl _) _).alloc (by simp) _).trans (hN1.below.mono (by simp <;> omega))
  clear hN1
  go_loopw [4, 14] (fun p i wr => ∃ k : Nat, k ≤ N ∧ i = .int .i64 k ∧ p = .int .u8 ((tS xs k).2 : Nat) ∧ Own wr (w.heap.size + 1) (dcells m (tZ xs k)) 31 ∧ Own wr w.heap.size zp 31 ∧ Below w.heap.size w wr) (fun _ i _ => ((N : Int) - intOf i).toNat)
  case atStart => exact ⟨0, by omega, rfl, rfl, by rw [tZ_zero]; exact hO1, hR1, hB1⟩
  case round =>
    clear hO1 hR1 hB1
    obtain ⟨k, hk, rfl, rfl, hO, hR, hB⟩ := hrel
    by_cases hlt : k < N
    · have hs := hB.size
      have hcl := Lib.hid (hR'.out.below hb hB hb)
      have c1 := hcl.out k (by rw [hN.out]; exact hlt)
      obtain ⟨y0, y2⟩ := hxs'.out k (by rw [hN.out]; exact hlt)
      rw [pv_some _ _ _ y0] at c1
      have i1 : (k : Int) < (N : Int) := by omega
      have hcnt := tS_cnt xs k
      have hfi := fi_self xs k (by rw [hN.out]; exact hlt)
      have hidx := Lib.hid (fun x => fun h0 h2 => idxP_any a0 b0 nx b o c xs x wr (by rw [hN.out]; omega) (hN0'.out wr hB) h0 h2 hxs'.out hcl.out)
      rw [hN.out] at hidx
      obtain ⟨f, hf⟩ : ∃ f, fi xs (xs.getD k 0) = f := ⟨_, rfl⟩
      have hf' := Lib.hid hf
      have hzl := Lib.hid (tZ_len xs k (by omega))
      have hset := Lib.hid (fun y d h => tZ_step xs k (by omega) y d h)
      have hx0 : ∀ y : Int, Own (wr.setCell ⟨w.heap.size + 1, 1 + k, none⟩ (.int .u8 y)) (w.heap.size + 1) (dcells m ((tZ xs k).set k y)) 31 := fun y => by have := hO.set (1 + k) (.int .u8 y); rwa [dcells_set] at this
      have hx1 : ∀ y : Int, Own (wr.setCell ⟨w.heap.size + 1, 1 + k, none⟩ (.int .u8 y)) w.heap.size zp 31 := fun y => hR.other (by simp) _
      have hx2 : ∀ y : Int, Below w.heap.size w (wr.setCell ⟨w.heap.size + 1, 1 + k, none⟩ (.int .u8 y)) := fun y => hB.setCell (by simp) _
      have K0 := Lib.hid hx0
      have K1 := Lib.hid hx1
      have K2 := Lib.hid hx2
      have c2 := hO.cell (1 + k)
      rw [dcells_get _ _ _ (by rw [hzl.out]; omega)] at c2
      have f2 := hO.free (1 + k)
      have ho0 := hO
      clear hx0 hx1 hx2
      by_cases hlo : f < k
      · have hold := Lib.hid (tS_old xs k (by rw [hf]; exact hlo))
        rw [hf] at hold
        have c3 := ho0.cell (1 + f)
        rw [dcells_get _ _ _ (by rw [hzl.out]; omega)] at c3
        have i2 : (f : Int) < (k : Int) := by omega
        have hidx' := Lib.hid (show ∀ w', w' = wr → Calls Try.prog 87 #[.slice (some ⟨b, o, none⟩) N c, .pointer (some ⟨nb a0 b0 (xs.getD k 0), no (xs.getD k 0), none⟩)] w' fun e w'' => e = .returned (.int .i64 (f : Int)) ∧ wr = w'' from fun w' e => by
          rw [e]; have := hidx.out (xs.getD k 0) y0 y2; rwa [hf, if_pos (by omega)] at this)
        have h1 : tS xs (k + 1) = ((tS xs k).1 ++ [(tZ xs k).getD f 0], (tS xs k).2) := hold.out
        have hE := Lib.hid (show (tS xs k).2 = (tS xs (k + 1)).2 by rw [h1])
        have hZ := Lib.hid (hset.out _ _ h1)
        clear hO hf hidx hset hold h1
        generalize nb a0 b0 (xs.getD k 0) = Bx at *
        generalize no (xs.getD k 0) = Ox at *
        generalize xs.getD k 0 = x at *
        generalize (tZ xs k).getD f 0 = y at *
        generalize (tZ xs k).getD k 0 = z at *
        go_wp2_with (first
          | (go_at_call 87; ((with_reducible refine (hidx'.out _ rfl).mono ?_); rintro e w0 ⟨rfl, rfl⟩)))
        go_roundw
        case rel => exact ⟨k + 1, by omega, by go_num, by rw [hE.out], by rw [← hZ.out]; exact K0.out _, K1.out _, K2.out _⟩
        case measure => simp [intOf]; omega
      · have hfk : f = k := by omega
        have hnew := Lib.hid (tS_new xs k (by rw [hf]; omega))
        have hidx' := Lib.hid (show ∀ w', w' = wr → Calls Try.prog 87 #[.slice (some ⟨b, o, none⟩) N c, .pointer (some ⟨nb a0 b0 (xs.getD k 0), no (xs.getD k 0), none⟩)] w' fun e w'' => e = .returned (.int .i64 (k : Int)) ∧ wr = w'' from fun w' e => by
          rw [e]; have := hidx.out (xs.getD k 0) y0 y2; rwa [hf, hfk, if_pos (by omega)] at this)
        have h1 := hnew.out
        have hE := Lib.hid (show (tS xs k).2 + 1 = (tS xs (k + 1)).2 by rw [h1])
        have hZ := Lib.hid (hset.out _ _ h1)
        clear hO hf hidx hset hnew h1 hfk hlo hf' hfi
        generalize nb a0 b0 (xs.getD k 0) = Bx at *
        generalize no (xs.getD k 0) = Ox at *
        generalize xs.getD k 0 = x at *
        generalize (tS xs k).2 = p at *
        generalize (tZ xs k).getD k 0 = z at *
        go_wp2_with (first
          | (go_at_call 87; ((with_reducible refine (hidx'.out _ rfl).mono ?_); rintro e w0 ⟨rfl, rfl⟩)))
        go_roundw
        case rel => exact ⟨k + 1, by omega, by go_num, by rw [← hE.out]; go_num, by rw [← hZ.out]; exact K0.out _, K1.out _, K2.out _⟩
        case measure => simp [intOf]; omega
    · obtain rfl : k = N := by omega
      have hE := Lib.hid (show told xs = tZ xs k by unfold told; rw [hN.out])
      have hL := Lib.hid (tZ_len xs k h8)
      have hNk := hN.out
      go_wp2_with (first
        | (refine wpList_load_row rfl 31 _ rfl _ rfl 31 _ (0, 0) _ (hO) Try.underlying31 rfl (rowP (d9 _ _ (hL.out))) ?_)
        | (refine wpList_store_own rfl 31 _ _ rfl _ _ rfl rfl 31 _ (hR) (rowP (d9 _ _ (hL.out))) (z_eq8 (d9 _ _ hL.out)) (dcells_one _ _) ?_; intro w3 hO3 hN3))
      refine bodyPost_ret (v := .agg (dcells m (tZ xs k))) (results_cell_row rfl _ _ _ _ _ (0, 0) _ rfl (hO3) Try.underlying31 rfl (rowP (d9 _ _ (hL.out)))) rfl (⟨by rw [hE.out], hB.trans (hN3.below.mono (by omega))⟩)
end Go.Proofs.Ytlgdeciikliihaa
