/- The contract of the program's archesOf. -/
import Derived.Test.YtbpecjfiilkobaaMeN
import Derived.Test.YtbpecjfiilkobaaAre
import Derived.Test.YtbpecjfiilkobaaImplC
import Derived.Test.YtbpecjfiilkobaaSl
namespace Go.Proofs.Ytbpecjfiilkobaa
open Go.RowKit
set_option linter.unusedVariables false
set_option linter.unusedSimpArgs false
theorem makeA (n : Nat) (hn : n ≤ 1048576) : ∀ w : World, (Instr.makeSlice 32 (.int .i64 n) (.int .i64 n)).run Try.prog w = .ok (.slice (some ⟨w.heap.size, 0, none⟩) n n) (w.alloc (.cells (icells (List.replicate n 0)) 2)) := by
  intro w
  obtain ⟨i0, hi0, hz0, hz1, hz2⟩ := info_parts info64
  have := run_make w 32 2 i0 (.int .i64 0) Try.underlying32 hi0 hz0 .i64 .i64 (n : Int) (n : Int) (by omega) (by omega) (by rw [hz2]; omega) (by omega)
  rw [this, hz1]
  simp only [Int.toNat_natCast, Nat.mul_one]
  rw [← made64]
  rfl
/-- What archesOf hands back. -/
def AriPost (s : ByteArray) (w : World) (e : Ending) (w' : World) : Prop :=
  (∃ (o : List Int) (g : Nat), sarc s.data.toList = some o ∧ w.heap.size ≤ g ∧ e = .returned (.tuple #[.slice (some ⟨g, 0, none⟩) s.size s.size, .bool true]) ∧ Own w' g (icells (o.take s.size)) 2 ∧ Below w.heap.size w w') ∨
  (sarc s.data.toList = none ∧ e = .returned (.tuple #[.slice none 0 0, .bool false]) ∧ Below w.heap.size w w')
set_option maxRecDepth 100000 in
set_option maxHeartbeats 1000000 in
theorem ari_none (s : ByteArray) (w : World) (hm : s.size ≤ maxLen) (hp : parse s.data.toList = none) :
    Calls Try.prog 17 #[.string s] w (AriPost s w) := by
  have hc := Lib.hid (fun w => (dot_any s w hm).mono fun e w' (hd : DotPost _ w e w') => show e = .returned (.tuple #[.agg zcells, .bool false]) ∧ Below w.heap.size w w' from ⟨by rw [hd.1, hp]; rfl, hd.2⟩)
  have HP := Lib.hid (sarc_none_parse hp)
  clear hp hm
  go_enter Try.func17, Try.ntmps17
  go_wp2_with (first
    | (go_at_call 19; ((with_reducible refine (hc.out _).mono ?_); rintro e w2 ⟨rfl, hB2⟩))
    | (refine wpList_store_own rfl 47 _ _ rfl _ _ rfl rfl 47 _ (Own.new w2 _ _) (row26 (d17 _ _ (zlen))) (rfl) (dcells_one _ _) ?_; intro w3 hO3 hN3))
  go_ret2
  exact .inr ⟨HP.out, rfl, (hB2.alloc hB2.size _).trans (hN3.below.mono hB2.size)⟩
set_option maxRecDepth 100000 in
set_option maxHeartbeats 1000000 in
theorem ari_big (s : ByteArray) (w : World) (hm : s.size ≤ maxLen) (n : Int) (ms : List Int) (hp : parse s.data.toList = some (n, ms)) (h6 : 6 < n) :
    Calls Try.prog 17 #[.string s] w (AriPost s w) := by
  have hc := Lib.hid (fun w => (dot_any s w hm).mono fun e w' (hd : DotPost _ w e w') => show e = .returned (.tuple #[.agg (dcells n ms), .bool true]) ∧ Below w.heap.size w w' from ⟨by rw [hd.1, hp]; rfl, hd.2⟩)
  have HP := Lib.hid (sarc_none_big hp h6)
  have hl' := Lib.hid (parse_len _ _ _ hp)
  have c0' := dcells_zero n ms
  clear hp hm
  go_enter Try.func17, Try.ntmps17
  go_wp2_with (first
    | (go_at_call 19; ((with_reducible refine (hc.out _).mono ?_); rintro e w2 ⟨rfl, hB2⟩))
    | (go_at_call 15; ((with_reducible refine (areI_f n 6 _ (.inr h6)).mono ?_); rintro e w0 ⟨rfl, rfl⟩))
    | (refine wpList_store_own rfl 47 _ _ rfl _ _ rfl rfl 47 _ (Own.new w2 _ _) (row26 (d17 _ _ (hl'.out))) (z_eq (d17 _ _ hl'.out)) (dcells_one _ _) ?_; intro w3 hO3 hN3; have c3 := hO3.cell 0; rw [c0'] at c3))
  go_ret2
  exact .inr ⟨HP.out, rfl, (hB2.alloc hB2.size _).trans (hN3.below.mono hB2.size)⟩
set_option maxRecDepth 100000 in
set_option maxHeartbeats 1000000 in
theorem ari_some (s : ByteArray) (w : World) (hm : s.size ≤ maxLen) (n : Int) (ms : List Int) (hp : parse s.data.toList = some (n, ms)) (h1 : 1 ≤ n) (h6 : n ≤ 6) (N : Nat) (hN : (N : Int) = 2 * n) (hs : s.size = N) (hmb : ∀ j : Nat, (j : Int) < 2 * n → 0 ≤ ms.getD j 0 ∧ ms.getD j 0 < 2 * n) :
    Calls Try.prog 17 #[.string s] w (AriPost s w) := by
  have hc := Lib.hid (fun w => (dot_any s w hm).mono fun e w' (hd : DotPost _ w e w') => show e = .returned (.tuple #[.agg (dcells n ms), .bool true]) ∧ Below w.heap.size w w' from ⟨by rw [hd.1, hp]; rfl, hd.2⟩)
  obtain ⟨o, ho, _⟩ := sarc_of_parse hp h6
  have HX := Lib.hid (xL_all hp h6 ho)
  have HO := Lib.hid ho
  have HL := Lib.hid (size_list s)
  have hl' := Lib.hid (parse_len _ _ _ hp)
  have HMB := Lib.hid hmb
  have c0' := dcells_zero n ms
  have hmk := makeA N (by omega)
  have hS := Lib.hid hs
  rw [show ((N : Nat) : Int) = 2 * n from hN] at hmk
  clear hp hm ho hmb hs
  go_enter Try.func17, Try.ntmps17
  go_wp2_with (first
    | (go_at_call 19; ((with_reducible refine (hc.out _).mono ?_); rintro e w2 ⟨rfl, hB2⟩))
    | (go_at_call 15; ((with_reducible refine (areI_t n 6 _ h1 h6).mono ?_); rintro e w0 ⟨rfl, rfl⟩))
    | (refine wpList_store_own rfl 47 _ _ rfl _ _ rfl rfl 47 _ (Own.new w2 _ _) (row26 (d17 _ _ (hl'.out))) (z_eq (d17 _ _ hl'.out)) (dcells_one _ _) ?_; intro w3 hO3 hN3; have c3 := hO3.cell 0; rw [c0'] at c3; have c4 := (hO3.alloc (.cells (icells (List.replicate N 0)) 2)).cell 0; rw [c0'] at c4))
  have hOa : Own (w3.alloc (.cells (icells (List.replicate N 0)) 2)) w2.heap.size (dcells n ms) 47 := hO3.alloc _
  have hGa : Own (w3.alloc (.cells (icells (List.replicate N 0)) 2)) w3.heap.size (icells (xL n N ms 0)) 2 := Own.new _ _ _
  have hB3 : Below w.heap.size w w3 := (hB2.alloc hB2.size _).trans (hN3.below.mono hB2.size)
  have hBa : Below w.heap.size w (w3.alloc (.cells (icells (List.replicate N 0)) 2)) := hB3.alloc hB3.size _
  have hne : w2.heap.size ≠ w3.heap.size := Nat.ne_of_lt hO3.lt
  have hge := hB3.size
  obtain ⟨g, hg⟩ : ∃ g, w3.heap.size = g := ⟨_, rfl⟩
  obtain ⟨b, hb⟩ : ∃ b, w2.heap.size = b := ⟨_, rfl⟩
  rw [hg] at hGa hne hge
  rw [hb] at hOa hne
  rw [hg, hb] at *
  clear hO3 hN3 c3 c4 c0'
  generalize w3.alloc (.cells (icells (List.replicate N 0)) 2) = wa at *
  go_wp2
  go_loopw [28] (fun i wr => ∃ k : Nat, k ≤ N ∧ i = .int .i64 k ∧ Own wr b (dcells n ms) 47 ∧ Own wr g (icells (xL n N ms k)) 2 ∧ Below w.heap.size w wr) (fun i _ => (2 * n - intOf i).toNat)
  case atStart => exact ⟨0, by omega, rfl, hOa, hGa, hBa⟩
  case round =>
    clear hOa hGa hBa
    obtain ⟨k, hk, rfl, hO, hG, hB⟩ := hrel
    by_cases hlt : (k : Int) < 2 * n
    · have hml := Lib.hid (xL_len n N ms k)
      have mb := HMB.out k hlt
      obtain ⟨m, hm⟩ : ∃ m, ms.getD k 0 = m := ⟨_, rfl⟩
      have c1 : (dcells n ms)[1 + k]? = some (.int .u8 m) := by rw [dcells_get _ _ _ (by rw [hl'.out]; omega), ← hm]
      rw [hm] at mb
      obtain ⟨mm0, mm2⟩ := mb
      have hst := Lib.hid (show xL n N ms (k + 1) = (xL n N ms k).set (pl n k).toNat (pl n m) by rw [xL, hm])
      have pk := pl_bd n k (by omega) (by omega) hlt
      obtain ⟨q, hq⟩ : ∃ q, pl n k = q := ⟨_, rfl⟩
      have C1 := Lib.hid c1
      clear hm c1
      go_wp2
      refine wp_region_still_tail 13 (by kernel_rfl) (by kernel_rfl) ?_
      have hO' : Own { wr with drawn := wr.drawn + 1 } b (dcells n ms) 47 := hO
      have hG' : Own { wr with drawn := wr.drawn + 1 } g (icells (xL n N ms k)) 2 := hG
      have hB' : Below w.heap.size w { wr with drawn := wr.drawn + 1 } := hB.trans ((Below.refl _ _).drew)
      clear hO hG hB
      generalize ({ wr with drawn := wr.drawn + 1 } : World) = wd at *
      have k1 := hO'.cell (1 + k)
      rw [C1.out] at k1
      have k0 := hO'.cell 0
      rw [dcells_zero] at k0
      have hk16 : (k : Int) < 16 := by omega
      have hwr : IntKind.i64.wrap m = m := IntWalk.i64_in _ (by omega)
      have q1 := placeI_any n k wd (by omega) (by omega) (by omega) (by omega)
      rw [hq] at q1
      have q1 := Lib.hid (q1.mono fun e w' h => And.intro h.1 h.2.symm)
      have q2 := Lib.hid ((placeI_any n m wd (by omega) (by omega) (by omega) (by omega)).mono fun e w' h => And.intro h.1 h.2.symm)
      simp only [List.take_succ_cons, List.take_zero, List.drop_succ_cons, List.drop_zero]
      still_step
      still_step
      still_step
      still_step
      still_call q1.out
      still_step
      still_step
      still_step
      still_step
      still_step
      still_step
      still_step
      still_call q2.out
      refine wpStill_nil ?_
      rw [hq] at pk
      have hst2 := hst.out
      rw [hq] at hst2
      have hst2 := Lib.hid hst2
      have c2 : wd.cell? ⟨g, q.toNat, none⟩ = some (.int .i64 ((xL n N ms k).getD q.toNat 0)) := by rw [hG'.cell, icells_get _ _ (by rw [hml.out]; omega)]
      have f2 := hG'.free q.toNat
      have hG2 := hG'.set q.toNat (.int .i64 (pl n m))
      rw [icells_set, ← hst2.out] at hG2
      have hO2 := hO'.other (a := ⟨g, q.toNat, none⟩) hne.symm (.int .i64 (pl n m))
      have hB2 := hB'.setCell (p := ⟨g, q.toNat, none⟩) hge (.int .i64 (pl n m))
      have K1 := Lib.hid hG2
      have K2 := Lib.hid hO2
      have K3 := Lib.hid hB2
      clear hG2 hO2 hB2 hG' hO' hB' k1 k0 hwr
      go_wp2
      go_roundw
      case rel => exact ⟨k + 1, by omega, by go_num, K2.out, K1.out, K3.out⟩
      case measure => simp [intOf]; omega
    · have e : k = N := by omega
      subst e
      have E := Lib.hid (show xL n k ms k = o.take s.size by have h := HX.out; rw [HL.out, hS.out] at h; rw [hS.out]; exact h)
      have E2 := hS.out
      go_wp2
      go_ret2
      exact .inl ⟨o, g, HO.out, hge, by rw [E2]; rfl, by rw [← E.out]; exact hG, hB⟩
theorem ari_any (s : ByteArray) (w : World) (hm : s.size ≤ maxLen) : Calls Try.prog 17 #[.string s] w (AriPost s w) := by
  cases hp : parse s.data.toList with
  | none => exact ari_none s w hm hp
  | some q =>
    obtain ⟨n, ms⟩ := q
    by_cases h6 : n ≤ 6
    · obtain ⟨hl, h1, h8, _⟩ := parse_len2 hp
      rw [size_list] at hl
      refine ari_some s w hm n ms hp h1 h6 s.size hl rfl fun j hj => ?_
      obtain ⟨o, ho, hg⟩ := sarc_of_parse hp h6
      have S := sarc_sys ho
      rw [size_list] at S
      have b := pl_bd n j h8 (by omega) hj
      have g := hg (pl n j).toNat (by omega)
      rw [show (((pl n j).toNat : Nat) : Int) = pl n j by omega, pl_pl0 n j (by omega) hj] at g
      simp only [Int.toNat_natCast] at g
      have a := S.arc (pl n j).toNat (by omega)
      rw [g]
      have := pl_bd n (o.getD (pl n j).toNat 0) h8 a.1 (by omega)
      omega
    · exact ari_big s w hm n ms hp (by omega)
end Go.Proofs.Ytbpecjfiilkobaa
